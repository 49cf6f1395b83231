/- LineKeeps: what is common stays; what goes first is not in the line at its place; of a list that goes on nothing goes that is of its epoch or a later one, but behind one of an earlier one; of all lists and lines. -/
import Derived.Test.YtbbgeccbdellmaaQ2
import Derived.Test.YtbbgeccbdellmaaQ6
import Derived.LoopTactic
import Derived.BigQuiet
import Derived.Test.YtbbgeccbdellmaaRows
import Derived.Deep.DeepHandedRow
import Derived.ProofKit
import Derived.OpenShut
import Derived.ShutString
import Derived.SizedLaws
import Derived.ChangeOld
import Derived.Below
import Derived.SliceStrings
set_option linter.unusedVariables false
set_option linter.unusedSimpArgs false
/- The walk of LineKeeps. -/
namespace Go.Proofs.Ytbbgeccbdellmaa.ln
open Go Go.RowKit Go.Sort Go.Proofs.Ytbbgeccbdellmaa Go.Proofs.Ytbbgeccbdellmaa.ib Go.Proofs.Ytbbgeccbdellmaa.lg
set_option maxRecDepth 100000

def WKeG (M : Ln) (l : List Gd) (A B : Option Addr) (c d g1 : Nat) (k1 k2 : Nat) : Nat → Value → World → Prop
  | 0, v, _ => v = .slice A l.length c
  | 1, v, _ => v = .agg #[.int .u64 (M.ep : Int), .int .i64 M.bf, .bool M.ls, .slice B M.gs.length d]
  | 2, v, _ => v = .int .i64 ((k1 : Nat) : Int)
  | 3, v, _ => v = .slice A l.length c
  | 4, v, _ => v = .agg #[.int .u64 (M.ep : Int), .int .i64 M.bf, .bool M.ls, .slice B M.gs.length d]
  | 5, v, _ => v = .int .i64 ((k2 : Nat) : Int)
  | 6, v, _ => v = .int .i64 ((k1 : Nat) : Int)
  | 7, v, _ => v = .int .i64 ((k2 : Nat) : Int)
  | _, _, _ => True
theorem WKeG_mono (M : Ln) (l : List Gd) (A B : Option Addr) (c d g1 : Nat) (k1 k2 : Nat) (i : Nat) (v : Value) (w w' : World) (hi : i < 8) (h : WKeG M l A B c d g1 k1 k2 i v w) (hb : Below w.heap.size w w') : WKeG M l A B c d g1 k1 k2 i v w' := by
  match i, hi, h with
  | 0, _, h | 1, _, h | 2, _, h | 3, _, h | 4, _, h | 5, _, h | 6, _, h | 7, _, h => exact h
  | j + 8, hi, _ => exact absurd hi (by omega)
def KeRel (a b : Nat) (w : World) (i : Value) (wr : World) : Prop := ∃ k : Nat, a ≤ k ∧ k ≤ b ∧ i = .int .i64 (k : Int) ∧ Below w.heap.size w wr
set_option maxHeartbeats 12800000 in
theorem lineKeeps_walk (A : Option Addr) (c : Nat) (l : List Gd) (u : Value) (M : Ln) (w : World) (hA : GdL w A l c) (hl : l.length * 16 ≤ 140737488351232) (hu : LnL w u M) (hy : szL M) :
    Calls Try.prog 6 #[.slice A l.length c, u] w (endB true w) := by
  obtain ⟨B, d, rfl, hB⟩ := hu
  have hx := Blk.new w 25 #[.int .u64 (M.ep : Int), .int .i64 M.bf, .bool M.ls, .slice B M.gs.length d]
  have hb := (Below.refl w.heap.size w).alloc (Nat.le_refl _) (.cells #[.int .u64 (M.ep : Int), .int .i64 M.bf, .bool M.ls, .slice B M.gs.length d] 25)
  obtain ⟨V0, hV0⟩ : ∃ z, w.alloc (.cells #[.int .u64 (M.ep : Int), .int .i64 M.bf, .bool M.ls, .slice B M.gs.length d] 25) = z := ⟨_, rfl⟩
  rw [hV0] at hx hb
  have HA : Hid (GdL V0 A l c) := hA.below hb
  have HB' : Hid (GdL V0 B M.gs d) := hB.below hb
  have HB := Lib.hid hb
  have HX := Lib.hid hx
  have HZ2 := Lib.hid hy
  have hll : l.length ≤ 9223372036854775807 := by omega
  have HLL := Lib.hid hll
  have HML := Lib.hid hy.int
  go_enter Try.func6, Try.ntmps6
  go_upto_region 1 with fail
  try rw [hV0]
  clear hV0 hA hB hb hx hy hl hll
  obtain ⟨g1, hg1⟩ : ∃ g, w.heap.size = g := ⟨_, rfl⟩
  rw [hg1] at HX
  try rw [hg1]
  clear hg1
  go_wp2_with fail
  refine (works_any V0).mono ?_
  rintro en V1 ⟨rfl, hb1⟩
  have nHA := HA.out.below hb1
  clear HA
  have HA := Lib.hid nHA
  clear nHA
  have nHB' := HB'.out.below hb1
  clear HB'
  have HB' := Lib.hid nHB'
  clear nHB'
  have nHX := HX.out.below hb1
  clear HX
  have HX := Lib.hid nHX
  clear nHX
  have hB1 := below_step HB.out hb1
  clear HB
  have HB := Lib.hid hB1
  clear hB1 hb1
  have HC1 : Hid (∀ i, i < common l M.gs → l.getD i (0, 0) = M.gs.getD i (0, 0)) := fun i h => common_get l M.gs i h
  have HC2 : Hid (common l M.gs < l.length → common l M.gs < M.gs.length → l.getD (common l M.gs) (0, 0) ≠ M.gs.getD (common l M.gs) (0, 0)) := common_stop l M.gs
  have HC3 : Hid (common l M.gs < M.gs.length → stays l M = common l M.gs) := fun h => stays_less h
  have HC4 : Hid (∀ i, common l M.gs ≤ i → i < stays l M → M.ep ≤ (l.getD i (0, 0)).1) := fun i h1 h2 => stays_get l M i h1 h2
  have HC5 : Hid (¬ (common l M.gs < l.length ∧ common l M.gs < M.gs.length) → stays l M = l.length ∨ (l.getD (stays l M) (0, 0)).1 < M.ep) := stays_end l M
  have hle := common_le l M.gs
  have hse := stays_le l M
  obtain ⟨k1, hk1⟩ : ∃ k, common l M.gs = k := ⟨_, rfl⟩
  have K1 := Lib.hid hk1
  obtain ⟨k2, hk2⟩ : ∃ k, stays l M = k := ⟨_, rfl⟩
  have K2 := Lib.hid hk2
  rw [hk1] at HC1 HC2 HC3 HC4 HC5 hle hse
  rw [hk2] at HC3 HC4 HC5 hse
  clear hk1 hk2
  have HLE := Lib.hid hle
  have HSE := Lib.hid hse
  clear hle hse
  go_upto_region 3 with fail
  refine wp_region_inv (by kernel_rfl) [11, 12, 13, 14, 15, 16, 5, 6] (by kernel_rfl) (fun L vs W => Below V1.heap.size V1 W ∧ ∀ i, L i = true → i < 8 → WKeG M l A B c d g1 k1 k2 i (vs i) W) ⟨(Below.refl _ _).drew, fun i hi => (by cases hi)⟩ ?_ ?_ ?_
  · intro i o L vs ρ W ho hli haft hρ hgd hI
    obtain ⟨hb, hG'⟩ := hI
    have hG : ∀ j, L j = true → WKeG M l A B c d g1 k1 k2 j (vs j) W := fun j hj => by
      by_cases h51 : j < 8
      · exact hG' j hj h51
      · match j, h51 with
        | j + 8, _ => exact trivial
    have hi51 : i < 8 := (Array.getElem?_eq_some_iff.1 ho).1
    have hc := hρ.const
    have hfn := hρ.fn
    have nextG : ∀ v W', Below W.heap.size W W' → WKeG M l A B c d g1 k1 k2 i v W' → ∀ j, updB L i j = true → j < 8 → WKeG M l A B c d g1 k1 k2 j (updV vs i v j) W' := fun v W' h1 h2 j hj h51 => by
      by_cases hji : j = i
      · subst hji
        simpa [updV] using h2
      · simp only [updB, if_neg hji] at hj
        simpa [updV, hji] using WKeG_mono M l A B c d g1 k1 k2 j _ W W' h51 (hG' j hj h51) h1
    have next : ∀ v W', Below W.heap.size W W' → WKeG M l A B c d g1 k1 k2 i v W' → Below V1.heap.size V1 W' ∧ ∀ j, updB L i j = true → j < 8 → WKeG M l A B c d g1 k1 k2 j (updV vs i v j) W' := fun v W' h1 h2 => ⟨below_step hb h1, nextG v W' h1 h2⟩
    obtain ⟨x0, x1, x2, x3⟩ := blk_ln (HX.out.below hb)
    have xl := (HX.out.below hb).lt
    rcases i with _ | _ | _ | _ | _ | _ | _ | _ | i
    all_goals (first | omega | skip)
    all_goals simp only [List.getElem?_toArray, List.getElem?_cons_zero, List.getElem?_cons_succ, Option.some.injEq] at ho
    all_goals subst ho
    · have o0 : ρ (.tmp 0) = .slice A l.length c := hρ.out 0 rfl
      exact stepTo_value (w' := W) (by unfold execOp; simp only [o0, hc]; go_simp) (next _ _ (Below.refl _ _) rfl)
    · have o3 : ρ (.tmp 3) = .pointer (some ⟨g1, 0, none⟩) := hρ.out 3 rfl
      exact stepTo_value (w' := W) (by unfold execOp; simp only [o3, hc]; go_simp) (next _ _ (Below.refl _ _) rfl)
    · have g11 : WKeG M l A B c d g1 k1 k2 0 (vs 0) W := hG 0 (haft 0 (by kernel_rfl))
      have s11 : ρ (.tmp 11) = .slice A l.length c := (hρ.at_ 11 0 rfl).trans g11
      have g12 : WKeG M l A B c d g1 k1 k2 1 (vs 1) W := hG 1 (haft 1 (by kernel_rfl))
      have s12 : ρ (.tmp 12) = .agg #[.int .u64 (M.ep : Int), .int .i64 M.bf, .bool M.ls, .slice B M.gs.length d] := (hρ.at_ 12 1 rfl).trans g12
      refine stepTo_enter (f := 17) (args := #[.slice A l.length c, .agg #[.int .u64 (M.ep : Int), .int .i64 M.bf, .bool M.ls, .slice B M.gs.length d]]) (w' := W) (by unfold execOp; simp only [hfn, s11, s12]; go_simp) (((common_is (l := l) (v := .agg #[.int .u64 (M.ep : Int), .int .i64 M.bf, .bool M.ls, .slice B M.gs.length d]) (L := M) (n := k1) K1.out (HA.out.below hb) (lnL_agg (HB'.out.below hb)) HLL.out HZ2.out.int)).mono ?_)
      rintro x W' ⟨rfl, hb'⟩
      exact ⟨_, rfl, next _ _ hb' rfl⟩
    · have o0 : ρ (.tmp 0) = .slice A l.length c := hρ.out 0 rfl
      exact stepTo_value (w' := W) (by unfold execOp; simp only [o0, hc]; go_simp) (next _ _ (Below.refl _ _) rfl)
    · have o3 : ρ (.tmp 3) = .pointer (some ⟨g1, 0, none⟩) := hρ.out 3 rfl
      exact stepTo_value (w' := W) (by unfold execOp; simp only [o3, hc]; go_simp) (next _ _ (Below.refl _ _) rfl)
    · have g14 : WKeG M l A B c d g1 k1 k2 3 (vs 3) W := hG 3 (haft 3 (by kernel_rfl))
      have s14 : ρ (.tmp 14) = .slice A l.length c := (hρ.at_ 14 3 rfl).trans g14
      have g15 : WKeG M l A B c d g1 k1 k2 4 (vs 4) W := hG 4 (haft 4 (by kernel_rfl))
      have s15 : ρ (.tmp 15) = .agg #[.int .u64 (M.ep : Int), .int .i64 M.bf, .bool M.ls, .slice B M.gs.length d] := (hρ.at_ 15 4 rfl).trans g15
      refine stepTo_enter (f := 19) (args := #[.slice A l.length c, .agg #[.int .u64 (M.ep : Int), .int .i64 M.bf, .bool M.ls, .slice B M.gs.length d]]) (w' := W) (by unfold execOp; simp only [hfn, s14, s15]; go_simp) (((stays_is (l := l) (v := .agg #[.int .u64 (M.ep : Int), .int .i64 M.bf, .bool M.ls, .slice B M.gs.length d]) (L := M) (n := k2) K2.out (HA.out.below hb) (lnL_agg (HB'.out.below hb)) HLL.out HZ2.out.int)).mono ?_)
      rintro x W' ⟨rfl, hb'⟩
      exact ⟨_, rfl, next _ _ hb' rfl⟩
    · have g13 : WKeG M l A B c d g1 k1 k2 2 (vs 2) W := hG 2 (haft 2 (by kernel_rfl))
      have s13 : ρ (.tmp 13) = .int .i64 ((k1 : Nat) : Int) := (hρ.at_ 13 2 rfl).trans g13
      exact stepTo_value (w' := W) (by unfold execOp; simp only [s13, hc]; go_simp) (next _ _ (Below.refl _ _) rfl)
    · have g16 : WKeG M l A B c d g1 k1 k2 5 (vs 5) W := hG 5 (haft 5 (by kernel_rfl))
      have s16 : ρ (.tmp 16) = .int .i64 ((k2 : Nat) : Int) := (hρ.at_ 16 5 rfl).trans g16
      exact stepTo_value (w' := W) (by unfold execOp; simp only [s16, hc]; go_simp) (next _ _ (Below.refl _ _) rfl)
  · intro i o L vs W j want ho hli haft hg hv hI
    obtain ⟨hb, hG'⟩ := hI
    have hG : ∀ j, L j = true → WKeG M l A B c d g1 k1 k2 j (vs j) W := fun j hj => by
      by_cases h51 : j < 8
      · exact hG' j hj h51
      · match j, h51 with
        | j + 8, _ => exact trivial
    have hi51 : i < 8 := (Array.getElem?_eq_some_iff.1 ho).1
    rcases i with _ | _ | _ | _ | _ | _ | _ | _ | i
    all_goals (first | omega | skip)
    all_goals simp only [List.getElem?_toArray, List.getElem?_cons_zero, List.getElem?_cons_succ, Option.some.injEq] at ho
    all_goals subst ho
    all_goals simp only [reduceCtorEq, Option.some.injEq, Prod.mk.injEq] at hg
  intro vs V2 hI
  obtain ⟨hb, hG⟩ := hI
  have h6 : vs 6 = .int .i64 ((k1 : Nat) : Int) := hG 6 (by kernel_rfl) (by decide)
  have h7 : vs 7 = .int .i64 ((k2 : Nat) : Int) := hG 7 (by kernel_rfl) (by decide)
  have nHA := HA.out.below hb
  clear HA
  have HA := Lib.hid nHA
  clear nHA
  have nHB' := HB'.out.below hb
  clear HB'
  have HB' := Lib.hid nHB'
  clear nHB'
  have nHX := HX.out.below hb
  clear HX
  have HX := Lib.hid nHX
  clear nHX
  have hB1 := below_step HB.out hb
  clear HB
  have HB := Lib.hid hB1
  clear hB1 hb hG
  simp only [putList, putSel, if_true]
  rw [h6, h7]
  generalize vs 0 = yr0
  generalize vs 1 = yr1
  generalize vs 2 = yr2
  generalize vs 3 = yr3
  generalize vs 4 = yr4
  generalize vs 5 = yr5
  clear h6 h7 K1 K2
  simp only [Act.put, List.setIfInBounds_toArray, List.set_cons_succ, List.set_cons_zero]
  obtain ⟨n1, hn1⟩ : ∃ k, l.length = k := ⟨_, rfl⟩
  have HN1 := Lib.hid hn1
  obtain ⟨n2, hn2⟩ : ∃ k, M.gs.length = k := ⟨_, rfl⟩
  have HN2 := Lib.hid hn2
  rw [hn1] at HLL HLE HSE HC2 HC5
  rw [hn2] at HML HLE HX HC2 HC3 HC5
  rw [hn1, hn2]
  clear hn1 hn2
  have hll := HLL.out
  have hml := HML.out
  have j1 : ¬ k2 < k1 := by have := HSE.out; omega
  have j2 : ¬ n1 < k2 := by have := HSE.out; omega
  have j3 : ¬ n2 < k1 := by have := HLE.out; omega
  have j4 : ¬ (k2 : Int) < (k1 : Int) := by omega
  have j5 : ¬ (n1 : Int) < (k2 : Int) := by omega
  have j6 : ¬ (n2 : Int) < (k1 : Int) := by omega
  have q3 := (blk_ln HX.out).2.2.2
  have hlg := HX.out.lt
  go_upto_region 7 with fail
  clear j1 j2 j3 j4 j5 j6
  go_loopw [7] (fun i wr => KeRel 0 k1 V2 i wr) (fun i _ => k1 - (intOf i).toNat)
  case atStart => exact ⟨0, Nat.zero_le _, Nat.zero_le _, rfl, Below.refl _ _⟩
  case round =>
    obtain ⟨k, -, hk, rfl, hbw⟩ := hrel
    have HBW := Lib.hid hbw
    clear hbw q3 hlg
    have q3 := (blk_ln (HX.out.below HBW.out)).2.2.2
    have hlg := (HX.out.below HBW.out).lt
    by_cases hlt : k < k1
    · have hki : (k : Int) < (k1 : Int) := by omega
      have hkn1 : k < n1 := by have := HLE.out.1; omega
      have hkn2 : k < n2 := by have := HLE.out.2; omega
      have hkl : k < l.length := by rw [HN1.out]; exact hkn1
      have hkm : k < M.gs.length := by rw [HN2.out]; exact hkn2
      have hi1 : (k : Int) < (n1 : Int) := by omega
      have hi2 : (k : Int) < (n2 : Int) := by omega
      obtain ⟨b1, o1, rfl, l1, e0, e1⟩ := HA.out.gds.below HBW.out k hkl
      obtain ⟨b2, o2, rfl, l2, f0, f1⟩ := HB'.out.gds.below HBW.out k hkm
      have he := HC1.out k hlt
      rw [getD_in hkl, getD_in hkm] at he
      rw [← he] at f0 f1
      clear he
      generalize (l[k].1 : Int) = x1 at *
      generalize (l[k].2 : Int) = x2 at *
      go_wp2_with fail
      go_quiet (fail)
      have HB2 := Lib.hid (below_drewN HBW.out nq)
      go_wp2_with fail
      go_roundw
      case rel => exact ⟨k + 1, Nat.zero_le _, by omega, by go_num, HB2.out⟩
      case measure => simp [intOf]; omega
    · obtain rfl : k = k1 := by omega
      have hki : ¬ (k : Int) < (k : Int) := by omega
      have hB1 := below_step HB.out HBW.out
      have nHA := HA.out.below HBW.out
      clear HA
      have HA := Lib.hid nHA
      clear nHA
      have nHB' := HB'.out.below HBW.out
      clear HB'
      have HB' := Lib.hid nHB'
      clear nHB'
      have nHX := HX.out.below HBW.out
      clear HX
      have HX := Lib.hid nHX
      clear nHX
      clear HB HBW
      have HB := Lib.hid hB1
      clear hB1 hlt hki hk HC1
      generalize wr = V3 at *
      by_cases h1 : k < n1
      · have h1i : (k : Int) < (n1 : Int) := by omega
        by_cases h2 : k < n2
        · have h2i : (k : Int) < (n2 : Int) := by omega
          have hkl : k < l.length := by rw [HN1.out]; exact h1
          have hkm : k < M.gs.length := by rw [HN2.out]; exact h2
          obtain ⟨b1, o1, rfl, l1, e0, e1⟩ := HA.out.gds k hkl
          obtain ⟨b2, o2, rfl, l2, f0, f1⟩ := HB'.out.gds k hkm
          have he := HC2.out h1 h2
          rw [getD_in hkl, getD_in hkm] at he
          have hd := gd_ne he
          obtain rfl : k2 = k := HC3.out h2
          have hq : ((k2 : Int) == (k2 : Int)) = true := by simp
          clear he
          generalize (l[k2].1 : Int) = x1 at *
          generalize (l[k2].2 : Int) = x2 at *
          generalize (M.gs[k2].1 : Int) = y1 at *
          generalize (M.gs[k2].2 : Int) = y2 at *
          rcases hd with hd | ⟨rfl, hd⟩
          all_goals
            go_wp2_with fail
            go_quiet (fail)
            have HB2 := Lib.hid (below_drewN HB.out nq)
            go_wp2_with fail
            go_ret
            exact ⟨rfl, HB2.out⟩
        · have h2i : ¬ (k : Int) < (n2 : Int) := by omega
          have hno : ¬ (k < n1 ∧ k < n2) := fun h => h2 h.2
          have HE := Lib.hid (HC5.out (fun h => hno h))
          go_upto_region 13 with fail
          clear hno q3 hlg
          go_wp2_with fail
          go_loopw [8] (fun i wq => KeRel k k2 V3 i wq) (fun i _ => k2 - (intOf i).toNat)
          case atStart => exact ⟨k, Nat.le_refl _, HSE.out.1, rfl, Below.refl _ _⟩
          case round =>
            obtain ⟨j, hj0, hj, rfl, hbw⟩ := hrel
            have HBW := Lib.hid hbw
            clear hbw
            have q0 := (blk_ln (HX.out.below HBW.out)).1
            have hlg := (HX.out.below HBW.out).lt
            by_cases hlt : j < k2
            · have hki : (j : Int) < (k2 : Int) := by omega
              have hkn1 : j < n1 := by have := HSE.out.2; omega
              have hkl : j < l.length := by rw [HN1.out]; exact hkn1
              have hi1 : (j : Int) < (n1 : Int) := by omega
              obtain ⟨b1, o1, rfl, l1, e0, e1⟩ := HA.out.gds.below HBW.out j hkl
              have he := HC4.out j hj0 hlt
              rw [getD_in hkl] at he
              have hni : ¬ (l[j].1 : Int) < (M.ep : Int) := by omega
              have hnn : ¬ l[j].1 < M.ep := by omega
              clear he
              generalize l[j].1 = x1 at *
              generalize (l[j].2 : Int) = x2 at *
              go_wp2_with fail
              go_quiet (fail)
              have HB2 := Lib.hid (below_drewN HBW.out nq)
              go_wp2_with fail
              go_roundw
              case rel => exact ⟨j + 1, by omega, by omega, by go_num, HB2.out⟩
              case measure => simp [intOf]; omega
            · obtain rfl : j = k2 := by omega
              have hki : ¬ (j : Int) < (j : Int) := by omega
              by_cases hjn : j = n1
              · have hq : ((j : Int) == (n1 : Int)) = true := by simp; omega
                go_wp2_with fail
                go_quiet (fail)
                have HB2 := Lib.hid (below_drewN HBW.out nq)
                go_wp2_with fail
                go_ret
                exact ⟨rfl, below_step HB.out HB2.out⟩
              · have hq : ((j : Int) == (n1 : Int)) = false := by simp; omega
                have hkn1 : j < n1 := by have := HSE.out.2; omega
                have hkl : j < l.length := by rw [HN1.out]; exact hkn1
                have hi1 : (j : Int) < (n1 : Int) := by omega
                obtain ⟨b1, o1, rfl, l1, e0, e1⟩ := HA.out.gds.below HBW.out j hkl
                have he := HE.out.resolve_left hjn
                rw [getD_in hkl] at he
                have hni : (l[j].1 : Int) < (M.ep : Int) := by omega
                have hnn : l[j].1 < M.ep := by omega
                clear he
                generalize l[j].1 = x1 at *
                generalize (l[j].2 : Int) = x2 at *
                go_wp2_with fail
                go_quiet (fail)
                have HB2 := Lib.hid (below_drewN HBW.out nq)
                go_wp2_with fail
                go_ret
                exact ⟨rfl, below_step HB.out HB2.out⟩

      · have h1i : ¬ (k : Int) < (n1 : Int) := by omega
        have hno : ¬ (k < n1 ∧ k < n2) := fun h => h1 h.1
        have HE := Lib.hid (HC5.out (fun h => hno h))
        go_upto_region 13 with fail
        clear hno q3 hlg
        go_wp2_with fail
        go_loopw [8] (fun i wq => KeRel k k2 V3 i wq) (fun i _ => k2 - (intOf i).toNat)
        case atStart => exact ⟨k, Nat.le_refl _, HSE.out.1, rfl, Below.refl _ _⟩
        case round =>
          obtain ⟨j, hj0, hj, rfl, hbw⟩ := hrel
          have HBW := Lib.hid hbw
          clear hbw
          have q0 := (blk_ln (HX.out.below HBW.out)).1
          have hlg := (HX.out.below HBW.out).lt
          by_cases hlt : j < k2
          · have hki : (j : Int) < (k2 : Int) := by omega
            have hkn1 : j < n1 := by have := HSE.out.2; omega
            have hkl : j < l.length := by rw [HN1.out]; exact hkn1
            have hi1 : (j : Int) < (n1 : Int) := by omega
            obtain ⟨b1, o1, rfl, l1, e0, e1⟩ := HA.out.gds.below HBW.out j hkl
            have he := HC4.out j hj0 hlt
            rw [getD_in hkl] at he
            have hni : ¬ (l[j].1 : Int) < (M.ep : Int) := by omega
            have hnn : ¬ l[j].1 < M.ep := by omega
            clear he
            generalize l[j].1 = x1 at *
            generalize (l[j].2 : Int) = x2 at *
            go_wp2_with fail
            go_quiet (fail)
            have HB2 := Lib.hid (below_drewN HBW.out nq)
            go_wp2_with fail
            go_roundw
            case rel => exact ⟨j + 1, by omega, by omega, by go_num, HB2.out⟩
            case measure => simp [intOf]; omega
          · obtain rfl : j = k2 := by omega
            have hki : ¬ (j : Int) < (j : Int) := by omega
            by_cases hjn : j = n1
            · have hq : ((j : Int) == (n1 : Int)) = true := by simp; omega
              go_wp2_with fail
              go_quiet (fail)
              have HB2 := Lib.hid (below_drewN HBW.out nq)
              go_wp2_with fail
              go_ret
              exact ⟨rfl, below_step HB.out HB2.out⟩
            · have hq : ((j : Int) == (n1 : Int)) = false := by simp; omega
              have hkn1 : j < n1 := by have := HSE.out.2; omega
              have hkl : j < l.length := by rw [HN1.out]; exact hkn1
              have hi1 : (j : Int) < (n1 : Int) := by omega
              obtain ⟨b1, o1, rfl, l1, e0, e1⟩ := HA.out.gds.below HBW.out j hkl
              have he := HE.out.resolve_left hjn
              rw [getD_in hkl] at he
              have hni : (l[j].1 : Int) < (M.ep : Int) := by omega
              have hnn : l[j].1 < M.ep := by omega
              clear he
              generalize l[j].1 = x1 at *
              generalize (l[j].2 : Int) = x2 at *
              go_wp2_with fail
              go_quiet (fail)
              have HB2 := Lib.hid (below_drewN HBW.out nq)
              go_wp2_with fail
              go_ret
              exact ⟨rfl, below_step HB.out HB2.out⟩
end Go.Proofs.Ytbbgeccbdellmaa.ln

/- LineKeeps: what is common stays; what goes first is not in the line at its place; of a list that goes on nothing goes that is of its epoch or a later one, but behind one of an earlier one; of all lists and lines. -/
namespace Go.Proofs.Ytbbgeccbdellmaa.lineKeeps
open Go.ChangeShapes Go.WideShapes Go.ChangeAt Go.RowKit
open Go.ChangeMaps (open_string shut_string)
open Go.Proofs.Ytbbgeccbdellmaa.ib Go.Proofs.Ytbbgeccbdellmaa.lg Go.Proofs.Ytbbgeccbdellmaa.ln

theorem own : ownKnob Try.prog.godebug = none := by kernel_rfl
theorem laidOut : laidOutB Try.prog = true := by kernel_rfl

theorem witness (os : Os) {H : Type} (enc : TypeId × Value → H) :
    (OpenSpec.ofChange Rows.lineKeepsSpec).preRow enc Try.prog Try.f6 Rows.lineKeepsRow.domain false Rows.lineKeepsRow.laid ((World.holding Try.prog os ⟨#[], #[], []⟩).forCall (fun _ _ => 0) ⟨#[], #[.slice none 0 0, .agg #[.int .u64 0, .int .i64 0, .bool false, .slice none 0 0]], []⟩).memory #[.slice none 0 0, .agg #[.int .u64 0, .int .i64 0, .bool false, .slice none 0 0]] := by
  have hw : (DataW.whole enc Try.prog ((World.holding Try.prog os ⟨#[], #[], []⟩).forCall (fun _ _ => 0) ⟨#[], #[.slice none 0 0, .agg #[.int .u64 0, .int .i64 0, .bool false, .slice none 0 0]], []⟩).memory Try.f6.params.toList (OpenSpec.ofChange Rows.lineKeepsSpec).vars false (#[.slice none 0 0, .agg #[.int .u64 0, .int .i64 0, .bool false, .slice none 0 0]] : Array Value).toList 8).map (fun x => (x.1, x.2.1)) =
      some ([.nil, .agg [.lit (.int .u64 0), .lit (.int .i64 0), .lit (.bool false), .nil]], []) := by kernel_rfl
  obtain ⟨⟨x1, x2, x3⟩, hx, hx1⟩ := Option.map_eq_some_iff.1 hw
  simp only [Prod.mk.injEq] at hx1
  obtain ⟨rfl, rfl⟩ := hx1
  exact OpenSpec.preRow_of_cond 8 hx (by kernel_rfl) (fun k hk => by cases hk) (by kernel_rfl) (laidMetH_nil _ _)

set_option maxRecDepth 100000 in
set_option maxHeartbeats 1600000 in
theorem lifted (os : Os) (started : os.Started) (H : Type) (enc : TypeId × Value → H) (F : Stop.Interp) :
    ReturnsInHanded {} Try.checked os 6 .any ((OpenSpec.ofChange Rows.lineKeepsSpec).preRow enc Try.prog Try.f6 Rows.lineKeepsRow.domain false Rows.lineKeepsRow.laid) (((OpenSpec.ofChange Rows.lineKeepsSpec).at F).post enc Try.prog Try.f6 false true false false) := by
  refine returnsInHanded_of_row (C := Try.checked) (s := OpenSpec.ofChange Rows.lineKeepsSpec) own started (by kernel_rfl) Try.func6
    (witness_row_at (enc := enc) (C := Try.checked) false (World.holding Try.prog os ⟨#[], #[], []⟩) #[.slice none 0 0, .agg #[.int .u64 0, .int .i64 0, .bool false, .slice none 0 0]] rfl (by kernel_rfl) (by kernel_rfl) (by kernel_rfl) (witness os enc)) ?_
  intro W base args ds gs before hval0 hW _ _ hsz0 hL _ _
  have hsz : (DataW.weightsEach Try.prog (Try.f6.params.toList ++ (OpenSpec.ofChange Rows.lineKeepsSpec).bare.plain.varTypes Try.prog) (ds ++ gs)).all (· ≤ reachBytes) = true := hsz0
  have hval : ∀ (j : Nat) t v, Try.f6.params[j]? = some t → args[j]? = some v → Value.okWide Try.prog W .any base t v := hval0
  have hW' := hW
  obtain ⟨p, q, hA0, hV, rfl, hfz, hnd⟩ := hW
  have hA : DataW.TrodAll enc Try.prog W 0 (fun _ => true) true Try.f6.params.toList args.toList ds p := hA0
  rw [Try.params6] at hA hval hsz
  obtain ⟨v0, vs0, d0, ds0, p0, q0, hargs, rfl, rfl, h0, r0⟩ := trodAll_cons hA
  obtain ⟨v1, vs1, d1, ds1, p1, q1, rfl, rfl, rfl, h1, r1⟩ := trodAll_cons r0
  obtain ⟨rfl, rfl, rfl⟩ := trodAll_nil r1
  obtain rfl : args = #[v0, v1] := by cases args; simp_all
  obtain ⟨rfl, rfl⟩ := trodVars_none hV
  obtain ⟨a0, l0, c0, rfl⟩ := okWide_slice Try.underlying23 (hval 0 23 v0 rfl rfl)
  have k0 := h0
  have lt0 : ∀ x ∈ p0, x.block < W.heap.size := by obtain ⟨m, hm⟩ := k0; exact DataW.trod_lt m _ _ _ hm
  obtain ⟨zs0, hzl0, hS0, hM0⟩ := gdl_of k0
  subst hzl0
  have k1 := h1
  have lt1 : ∀ x ∈ p1, x.block < W.heap.size := by obtain ⟨m, hm⟩ := k1; exact DataW.trod_lt m _ _ _ hm
  obtain ⟨L1, hS1, hM1⟩ := line_of (hval 1 25 v1 rfl rfl) k1
  have hz0 := sz_gdl hsz (j := 0) rfl rfl hS0
  have hz1 := sz_line hsz (j := 1) rfl rfl hS1
  clear hA0 hval0 hsz0
  simp only [List.append_nil] at hW'
  refine (lineKeeps_walk a0 c0 zs0 v1 L1 W hM0 hz0 hM1 hz1).mono fun e W' ⟨he, hg⟩ => ?_
  subst he
  exact ⟨_, rfl, _, _, _, [], _, [], hW', trodAll_mk1 (shut_bool Try.underlying4 _), (trodAll_cons_mk (Below.trod laidOut (by kernel_rfl) (of_decide_eq_true (by kernel_rfl)) k0 hg lt0) (trodAll_cons_mk (Below.trod laidOut (by kernel_rfl) (of_decide_eq_true (by kernel_rfl)) k1 hg lt1) trodAll_mk0)), rfl, hg.frame _, fun h => by cases h⟩

theorem over : Rows.LineKeepsSaid :=
  OpenClaim.holds_of_cond 6 Try.f6 rfl rfl rfl rfl rfl rfl rfl ⟨rfl, rfl, rfl, rfl, rfl⟩ rfl rfl rfl rfl rfl (by kernel_rfl) Try.func6 (by kernel_rfl)
    (of_decide_eq_true (by kernel_rfl)) (by unfold Func.isWrapper; first | (rw [if_pos (by decide +kernel)]; kernel_rfl) | (rw [if_neg (by decide +kernel)]; exact ⟨rfl, rfl⟩))
    (fun os started H enc _ F => by rw [OpenClaim.pre_eq_preRow]; exact lifted os started H enc F)

theorem proved : Rows.LineKeepsSaid :=
  over
#print axioms proved
end Go.Proofs.Ytbbgeccbdellmaa.lineKeeps

