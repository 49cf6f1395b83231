/- LineMerges: which of two lines is further; of all lines. -/
import Derived.Test.YtbbgeccbdellmaaQ2
import Derived.Test.YtbbgeccbdellmaaQ6
import Derived.Test.YtbbgeccbdellmaaRows
import Derived.Deep.DeepHandedRow
import Derived.ProofKit
import Derived.OpenShut
import Derived.ShutString
import Derived.SizedLaws
import Derived.ChangeOld
import Derived.Below
import Derived.SliceStrings
set_option linter.unusedVariables false
set_option linter.unusedSimpArgs false
/- The walk of LineMerges. -/
namespace Go.Proofs.Ytbbgeccbdellmaa.ln
open Go Go.RowKit Go.Sort Go.Proofs.Ytbbgeccbdellmaa Go.Proofs.Ytbbgeccbdellmaa.ib Go.Proofs.Ytbbgeccbdellmaa.lg
set_option maxRecDepth 100000

def WMeG (La Lb R : Ln) (A B : Option Addr) (c d g1 : Nat) : Nat → Value → World → Prop
  | 0, v, _ => v = .agg #[.int .u64 (La.ep : Int), .int .i64 La.bf, .bool La.ls, .slice A La.gs.length c]
  | 1, v, _ => v = .agg #[.int .u64 (Lb.ep : Int), .int .i64 Lb.bf, .bool Lb.ls, .slice B Lb.gs.length d]
  | 2, v, W => ∃ A c, v = .agg #[.int .u64 (R.ep : Int), .int .i64 R.bf, .bool R.ls, .slice A R.gs.length c] ∧ OGd W 0 (.slice A R.gs.length c) R.gs
  | 3, v, _ => v = .agg #[.int .u64 (La.ep : Int), .int .i64 La.bf, .bool La.ls, .slice A La.gs.length c]
  | 4, v, _ => v = .agg #[.int .u64 (Lb.ep : Int), .int .i64 Lb.bf, .bool Lb.ls, .slice B Lb.gs.length d]
  | 5, v, W => ∃ A c, v = .agg #[.int .u64 (R.ep : Int), .int .i64 R.bf, .bool R.ls, .slice A R.gs.length c] ∧ OGd W 0 (.slice A R.gs.length c) R.gs
  | 6, v, _ => v = .bool true
  | 7, v, _ => v = .bool true
  | 8, v, _ => v = .bool true
  | 9, v, _ => v = .bool true
  | 10, v, _ => v = .bool true
  | _, _, _ => True
theorem WMeG_mono (La Lb R : Ln) (A B : Option Addr) (c d g1 : Nat) (i : Nat) (v : Value) (w w' : World) (hi : i < 11) (h : WMeG La Lb R A B c d g1 i v w) (hb : Below w.heap.size w w') : WMeG La Lb R A B c d g1 i v w' := by
  match i, hi, h with
  | 0, _, h | 1, _, h | 3, _, h | 4, _, h | 6, _, h | 7, _, h | 8, _, h | 9, _, h | 10, _, h => exact h
  | 2, _, ⟨A, c, hv, h1⟩ => exact ⟨A, c, hv, h1.below hb⟩
  | 5, _, ⟨A, c, hv, h1⟩ => exact ⟨A, c, hv, h1.below hb⟩
  | j + 11, hi, _ => exact absurd hi (by omega)
set_option maxHeartbeats 12800000 in
theorem lineMerges_walk (v : Value) (La : Ln) (u : Value) (Lb : Ln) (w : World) (hv : LnL w v La) (hz : szL La) (hu : LnL w u Lb) (hy : szL Lb) :
    Calls Try.prog 4 #[v, u] w (endB true w) := by
  obtain ⟨A, c, rfl, hA⟩ := hv
  obtain ⟨B, d, rfl, hB⟩ := hu
  obtain ⟨hx, hy2, hb⟩ := two_new w (lnV La (.slice A La.gs.length c)) (lnV Lb (.slice B Lb.gs.length d)) 25 25
  unfold lnV at hx hy2 hb
  obtain ⟨V0, hV0⟩ : ∃ z, (w.alloc (.cells #[.int .u64 (La.ep : Int), .int .i64 La.bf, .bool La.ls, .slice A La.gs.length c] 25)).alloc (.cells #[.int .u64 (Lb.ep : Int), .int .i64 Lb.bf, .bool Lb.ls, .slice B Lb.gs.length d] 25) = z := ⟨_, rfl⟩
  rw [hV0] at hx hy2 hb
  have HA : Hid (GdL V0 A La.gs c) := hA.below hb
  have HB' : Hid (GdL V0 B Lb.gs d) := hB.below hb
  have HB := Lib.hid hb
  have HX := Lib.hid hx
  have HY := Lib.hid hy2
  have HZ := Lib.hid hz
  have HZ2 := Lib.hid hy
  go_enter Try.func4, Try.ntmps4
  go_upto_region 1 with fail
  try rw [hV0]
  clear hV0 hA hB hb hx hy2 hz hy
  obtain ⟨g1, hg1⟩ : ∃ g, w.heap.size = g := ⟨_, rfl⟩
  rw [hg1] at HX HY
  try rw [hg1]
  clear hg1
  obtain ⟨R, hR⟩ : ∃ k, lMerge La Lb = k := ⟨_, rfl⟩
  have HR := Lib.hid hR
  have HZR : Hid (szL R) := by rw [← hR]; exact szL.merge HZ.out HZ2.out
  clear hR
  refine wp_region_inv (by kernel_rfl) [5, 6, 7, 8, 9, 10, 11, 12, 13, 14, 4] (by kernel_rfl) (fun L vs W => Below V0.heap.size V0 W ∧ ∀ i, L i = true → i < 11 → WMeG La Lb R A B c d g1 i (vs i) W) ⟨(Below.refl _ _).drew, fun i hi => by cases hi⟩ ?_ ?_ ?_
  · intro i o L vs ρ W ho hli haft hρ hgd hI
    obtain ⟨hb, hG'⟩ := hI
    have hG : ∀ j, L j = true → WMeG La Lb R A B c d g1 j (vs j) W := fun j hj => by
      by_cases h51 : j < 11
      · exact hG' j hj h51
      · match j, h51 with
        | j + 11, _ => exact trivial
    have hi51 : i < 11 := (Array.getElem?_eq_some_iff.1 ho).1
    have hc := hρ.const
    have hfn := hρ.fn
    have next : ∀ v W', Below W.heap.size W W' → WMeG La Lb R A B c d g1 i v W' → Below V0.heap.size V0 W' ∧ ∀ j, updB L i j = true → j < 11 → WMeG La Lb R A B c d g1 j (updV vs i v j) W' := fun v W' h1 h2 => by
      refine ⟨below_step hb h1, fun j hj h51 => ?_⟩
      by_cases hji : j = i
      · subst hji
        simpa [updV] using h2
      · simp only [updB, if_neg hji] at hj
        simpa [updV, hji] using WMeG_mono La Lb R A B c d g1 j _ W W' h51 (hG' j hj h51) h1
    obtain ⟨x0, x1, x2, x3⟩ := blk_ln (HX.out.below hb)
    have xl := (HX.out.below hb).lt
    obtain ⟨y0, y1, y2, y3⟩ := blk_ln (HY.out.below hb)
    have yl := (HY.out.below hb).lt
    rcases i with _ | _ | _ | _ | _ | _ | _ | _ | _ | _ | _ | i
    all_goals (first | omega | skip)
    all_goals simp only [List.getElem?_toArray, List.getElem?_cons_zero, List.getElem?_cons_succ, Option.some.injEq] at ho
    all_goals subst ho
    · have o2 : ρ (.tmp 2) = .pointer (some ⟨g1, 0, none⟩) := hρ.out 2 rfl
      exact stepTo_value (w' := W) (by unfold execOp; simp only [o2, hc]; go_simp) (next _ _ (Below.refl _ _) rfl)
    · have o3 : ρ (.tmp 3) = .pointer (some ⟨g1 + 1, 0, none⟩) := hρ.out 3 rfl
      exact stepTo_value (w' := W) (by unfold execOp; simp only [o3, hc]; go_simp) (next _ _ (Below.refl _ _) rfl)
    · have g5 : WMeG La Lb R A B c d g1 0 (vs 0) W := hG 0 (haft 0 (by kernel_rfl))
      have s5 : ρ (.tmp 5) = .agg #[.int .u64 (La.ep : Int), .int .i64 La.bf, .bool La.ls, .slice A La.gs.length c] := (hρ.at_ 5 0 rfl).trans g5
      have g6 : WMeG La Lb R A B c d g1 1 (vs 1) W := hG 1 (haft 1 (by kernel_rfl))
      have s6 : ρ (.tmp 6) = .agg #[.int .u64 (Lb.ep : Int), .int .i64 Lb.bf, .bool Lb.ls, .slice B Lb.gs.length d] := (hρ.at_ 6 1 rfl).trans g6
      refine stepTo_enter (f := 15) (args := #[.agg #[.int .u64 (La.ep : Int), .int .i64 La.bf, .bool La.ls, .slice A La.gs.length c], .agg #[.int .u64 (Lb.ep : Int), .int .i64 Lb.bf, .bool Lb.ls, .slice B Lb.gs.length d]]) (w' := W) (by unfold execOp; simp only [hfn, s5, s6]; go_simp) (((merge_is HR.out (lnL_agg (HA.out.below hb)) (lnL_agg (HB'.out.below hb)) HZ.out HZ2.out)).mono ?_)
      rintro x W' ⟨v', rfl, ⟨u', rfl, ho'⟩, hb'⟩
      exact ⟨_, rfl, next _ _ hb' (ln_word ho')⟩
    · have o2 : ρ (.tmp 2) = .pointer (some ⟨g1, 0, none⟩) := hρ.out 2 rfl
      exact stepTo_value (w' := W) (by unfold execOp; simp only [o2, hc]; go_simp) (next _ _ (Below.refl _ _) rfl)
    · have o3 : ρ (.tmp 3) = .pointer (some ⟨g1 + 1, 0, none⟩) := hρ.out 3 rfl
      exact stepTo_value (w' := W) (by unfold execOp; simp only [o3, hc]; go_simp) (next _ _ (Below.refl _ _) rfl)
    · have g8 : WMeG La Lb R A B c d g1 3 (vs 3) W := hG 3 (haft 3 (by kernel_rfl))
      have s8 : ρ (.tmp 8) = .agg #[.int .u64 (La.ep : Int), .int .i64 La.bf, .bool La.ls, .slice A La.gs.length c] := (hρ.at_ 8 3 rfl).trans g8
      have g9 : WMeG La Lb R A B c d g1 4 (vs 4) W := hG 4 (haft 4 (by kernel_rfl))
      have s9 : ρ (.tmp 9) = .agg #[.int .u64 (Lb.ep : Int), .int .i64 Lb.bf, .bool Lb.ls, .slice B Lb.gs.length d] := (hρ.at_ 9 4 rfl).trans g9
      refine stepTo_enter (f := 16) (args := #[.agg #[.int .u64 (La.ep : Int), .int .i64 La.bf, .bool La.ls, .slice A La.gs.length c], .agg #[.int .u64 (Lb.ep : Int), .int .i64 Lb.bf, .bool Lb.ls, .slice B Lb.gs.length d]]) (w' := W) (by unfold execOp; simp only [hfn, s8, s9]; go_simp) (((rmerge_is HR.out (lnL_agg (HA.out.below hb)) (lnL_agg (HB'.out.below hb)) HZ.out HZ2.out)).mono ?_)
      rintro x W' ⟨v', rfl, ⟨u', rfl, ho'⟩, hb'⟩
      exact ⟨_, rfl, next _ _ hb' (ln_word ho')⟩
    · obtain ⟨A7, c7, g7, hh71⟩ : WMeG La Lb R A B c d g1 2 (vs 2) W := hG 2 (haft 2 (by kernel_rfl))
      have s7 : ρ (.tmp 7) = .agg #[.int .u64 (R.ep : Int), .int .i64 R.bf, .bool R.ls, .slice A7 R.gs.length c7] := (hρ.at_ 7 2 rfl).trans g7
      obtain ⟨A10, c10, g10, hh101⟩ : WMeG La Lb R A B c d g1 5 (vs 5) W := hG 5 (haft 5 (by kernel_rfl))
      have s10 : ρ (.tmp 10) = .agg #[.int .u64 (R.ep : Int), .int .i64 R.bf, .bool R.ls, .slice A10 R.gs.length c10] := (hρ.at_ 10 5 rfl).trans g10
      refine stepTo_enter (f := 13) (args := #[.agg #[.int .u64 (R.ep : Int), .int .i64 R.bf, .bool R.ls, .slice A7 R.gs.length c7], .agg #[.int .u64 (R.ep : Int), .int .i64 R.bf, .bool R.ls, .slice A10 R.gs.length c10]]) (w' := W) (by unfold execOp; simp only [hfn, s7, s10]; go_simp) (((rsame_is (v := .agg #[.int .u64 (R.ep : Int), .int .i64 R.bf, .bool R.ls, .slice A7 R.gs.length c7]) (u := .agg #[.int .u64 (R.ep : Int), .int .i64 R.bf, .bool R.ls, .slice A10 R.gs.length c10]) (L := R) (M := R) (r := true) (decide_eq_true rfl) ⟨A7, c7, rfl, ogd_gdl hh71⟩ ⟨A10, c10, rfl, ogd_gdl hh101⟩ HZR.out.int HZR.out.int)).mono ?_)
      rintro x W' ⟨rfl, hb'⟩
      exact ⟨_, rfl, next _ _ hb' rfl⟩
    · have g11 : WMeG La Lb R A B c d g1 6 (vs 6) W := hG 6 (haft 6 (by kernel_rfl))
      have s11 : ρ (.tmp 11) = .bool true := (hρ.at_ 11 6 rfl).trans g11
      exact stepTo_value (w' := W) (by unfold execOp; simp only [s11, hc]; go_simp) (next _ _ (Below.refl _ _) rfl)
    · refine stepTo_enter (f := 14) (args := #[]) (w' := W) (by unfold execOp; simp only [hfn, ]; go_simp) (((works_any W)).mono ?_)
      rintro x W' ⟨rfl, hb'⟩
      exact ⟨_, rfl, next _ _ hb' rfl⟩
    · have g12 : WMeG La Lb R A B c d g1 7 (vs 7) W := hG 7 (haft 7 (by kernel_rfl))
      have s12 : ρ (.tmp 12) = .bool true := (hρ.at_ 12 7 rfl).trans g12
      have g13 : WMeG La Lb R A B c d g1 8 (vs 8) W := hG 8 (haft 8 (by kernel_rfl))
      have s13 : ρ (.tmp 13) = .bool true := (hρ.at_ 13 8 rfl).trans g13
      exact stepTo_value (w' := W) (by unfold execOp; simp only [s12, s13, hc]; go_simp) (next _ _ (Below.refl _ _) rfl)
    · have g14 : WMeG La Lb R A B c d g1 9 (vs 9) W := hG 9 (haft 9 (by kernel_rfl))
      have s14 : ρ (.tmp 14) = .bool true := (hρ.at_ 14 9 rfl).trans g14
      exact stepTo_value (w' := W) (by unfold execOp; simp only [s14, hc]; go_simp) (next _ _ (Below.refl _ _) rfl)
  · intro i o L vs W j want ho hli haft hg hv hI
    obtain ⟨hb, hG'⟩ := hI
    have hG : ∀ j, L j = true → WMeG La Lb R A B c d g1 j (vs j) W := fun j hj => by
      by_cases h51 : j < 11
      · exact hG' j hj h51
      · match j, h51 with
        | j + 11, _ => exact trivial
    have hi51 : i < 11 := (Array.getElem?_eq_some_iff.1 ho).1
    rcases i with _ | _ | _ | _ | _ | _ | _ | _ | _ | _ | _ | i
    all_goals (first | omega | skip)
    all_goals simp only [List.getElem?_toArray, List.getElem?_cons_zero, List.getElem?_cons_succ, Option.some.injEq] at ho
    all_goals subst ho
    all_goals simp only [reduceCtorEq, Option.some.injEq, Prod.mk.injEq] at hg
    · obtain ⟨rfl, rfl⟩ := hg
      exact (hv (hG 7 (haft 7 (by kernel_rfl)))).elim
  intro vs V9 hI
  obtain ⟨hb, hG⟩ := hI
  have h10 : vs 10 = .bool true := hG 10 (by kernel_rfl) (by decide)
  have HB9 := Lib.hid (below_step HB.out hb)
  clear hb hG
  simp only [putList, putSel, if_true]
  rw [h10]
  generalize vs 0 = yr0
  generalize vs 1 = yr1
  generalize vs 2 = yr2
  generalize vs 3 = yr3
  generalize vs 4 = yr4
  generalize vs 5 = yr5
  generalize vs 6 = yr6
  generalize vs 7 = yr7
  generalize vs 8 = yr8
  generalize vs 9 = yr9
  clear h10
  simp only [Act.put, List.setIfInBounds_toArray, List.set_cons_succ, List.set_cons_zero]
  go_wp2_with fail
  go_ret
  exact ⟨rfl, HB9.out⟩
end Go.Proofs.Ytbbgeccbdellmaa.ln

/- LineMerges: which of two lines is further; of all lines. -/
namespace Go.Proofs.Ytbbgeccbdellmaa.lineMerges
open Go.ChangeShapes Go.WideShapes Go.ChangeAt Go.RowKit
open Go.ChangeMaps (open_string shut_string)
open Go.Proofs.Ytbbgeccbdellmaa.ib Go.Proofs.Ytbbgeccbdellmaa.lg Go.Proofs.Ytbbgeccbdellmaa.ln

theorem own : ownKnob Try.prog.godebug = none := by kernel_rfl
theorem laidOut : laidOutB Try.prog = true := by kernel_rfl

theorem witness (os : Os) {H : Type} (enc : TypeId × Value → H) :
    (OpenSpec.ofChange Rows.lineMergesSpec).preRow enc Try.prog Try.f4 Rows.lineMergesRow.domain false Rows.lineMergesRow.laid ((World.holding Try.prog os ⟨#[], #[], []⟩).forCall (fun _ _ => 0) ⟨#[], #[.agg #[.int .u64 0, .int .i64 0, .bool false, .slice none 0 0], .agg #[.int .u64 0, .int .i64 0, .bool false, .slice none 0 0]], []⟩).memory #[.agg #[.int .u64 0, .int .i64 0, .bool false, .slice none 0 0], .agg #[.int .u64 0, .int .i64 0, .bool false, .slice none 0 0]] := by
  have hw : (DataW.whole enc Try.prog ((World.holding Try.prog os ⟨#[], #[], []⟩).forCall (fun _ _ => 0) ⟨#[], #[.agg #[.int .u64 0, .int .i64 0, .bool false, .slice none 0 0], .agg #[.int .u64 0, .int .i64 0, .bool false, .slice none 0 0]], []⟩).memory Try.f4.params.toList (OpenSpec.ofChange Rows.lineMergesSpec).vars false (#[.agg #[.int .u64 0, .int .i64 0, .bool false, .slice none 0 0], .agg #[.int .u64 0, .int .i64 0, .bool false, .slice none 0 0]] : Array Value).toList 8).map (fun x => (x.1, x.2.1)) =
      some ([.agg [.lit (.int .u64 0), .lit (.int .i64 0), .lit (.bool false), .nil], .agg [.lit (.int .u64 0), .lit (.int .i64 0), .lit (.bool false), .nil]], []) := by kernel_rfl
  obtain ⟨⟨x1, x2, x3⟩, hx, hx1⟩ := Option.map_eq_some_iff.1 hw
  simp only [Prod.mk.injEq] at hx1
  obtain ⟨rfl, rfl⟩ := hx1
  exact OpenSpec.preRow_of_cond 8 hx (by kernel_rfl) (fun k hk => by cases hk) (by kernel_rfl) (laidMetH_nil _ _)

set_option maxRecDepth 100000 in
set_option maxHeartbeats 1600000 in
theorem lifted (os : Os) (started : os.Started) (H : Type) (enc : TypeId × Value → H) (F : Stop.Interp) :
    ReturnsInHanded {} Try.checked os 4 .any ((OpenSpec.ofChange Rows.lineMergesSpec).preRow enc Try.prog Try.f4 Rows.lineMergesRow.domain false Rows.lineMergesRow.laid) (((OpenSpec.ofChange Rows.lineMergesSpec).at F).post enc Try.prog Try.f4 false true false false) := by
  refine returnsInHanded_of_row (C := Try.checked) (s := OpenSpec.ofChange Rows.lineMergesSpec) own started (by kernel_rfl) Try.func4
    (witness_row_at (enc := enc) (C := Try.checked) false (World.holding Try.prog os ⟨#[], #[], []⟩) #[.agg #[.int .u64 0, .int .i64 0, .bool false, .slice none 0 0], .agg #[.int .u64 0, .int .i64 0, .bool false, .slice none 0 0]] rfl (by kernel_rfl) (by kernel_rfl) (by kernel_rfl) (witness os enc)) ?_
  intro W base args ds gs before hval0 hW _ _ hsz0 hL _ _
  have hsz : (DataW.weightsEach Try.prog (Try.f4.params.toList ++ (OpenSpec.ofChange Rows.lineMergesSpec).bare.plain.varTypes Try.prog) (ds ++ gs)).all (· ≤ reachBytes) = true := hsz0
  have hval : ∀ (j : Nat) t v, Try.f4.params[j]? = some t → args[j]? = some v → Value.okWide Try.prog W .any base t v := hval0
  have hW' := hW
  obtain ⟨p, q, hA0, hV, rfl, hfz, hnd⟩ := hW
  have hA : DataW.TrodAll enc Try.prog W 0 (fun _ => true) true Try.f4.params.toList args.toList ds p := hA0
  rw [Try.params4] at hA hval hsz
  obtain ⟨v0, vs0, d0, ds0, p0, q0, hargs, rfl, rfl, h0, r0⟩ := trodAll_cons hA
  obtain ⟨v1, vs1, d1, ds1, p1, q1, rfl, rfl, rfl, h1, r1⟩ := trodAll_cons r0
  obtain ⟨rfl, rfl, rfl⟩ := trodAll_nil r1
  obtain rfl : args = #[v0, v1] := by cases args; simp_all
  obtain ⟨rfl, rfl⟩ := trodVars_none hV
  have k0 := h0
  have lt0 : ∀ x ∈ p0, x.block < W.heap.size := by obtain ⟨m, hm⟩ := k0; exact DataW.trod_lt m _ _ _ hm
  obtain ⟨L0, hS0, hM0⟩ := line_of (hval 0 25 v0 rfl rfl) k0
  have k1 := h1
  have lt1 : ∀ x ∈ p1, x.block < W.heap.size := by obtain ⟨m, hm⟩ := k1; exact DataW.trod_lt m _ _ _ hm
  obtain ⟨L1, hS1, hM1⟩ := line_of (hval 1 25 v1 rfl rfl) k1
  have hz0 := sz_line hsz (j := 0) rfl rfl hS0
  have hz1 := sz_line hsz (j := 1) rfl rfl hS1
  clear hA0 hval0 hsz0
  simp only [List.append_nil] at hW'
  refine (lineMerges_walk v0 L0 v1 L1 W hM0 hz0 hM1 hz1).mono fun e W' ⟨he, hg⟩ => ?_
  subst he
  exact ⟨_, rfl, _, _, _, [], _, [], hW', trodAll_mk1 (shut_bool Try.underlying4 _), (trodAll_cons_mk (Below.trod laidOut (by kernel_rfl) (of_decide_eq_true (by kernel_rfl)) k0 hg lt0) (trodAll_cons_mk (Below.trod laidOut (by kernel_rfl) (of_decide_eq_true (by kernel_rfl)) k1 hg lt1) trodAll_mk0)), rfl, hg.frame _, fun h => by cases h⟩

theorem over : Rows.LineMergesSaid :=
  OpenClaim.holds_of_cond 4 Try.f4 rfl rfl rfl rfl rfl rfl rfl ⟨rfl, rfl, rfl, rfl, rfl⟩ rfl rfl rfl rfl rfl (by kernel_rfl) Try.func4 (by kernel_rfl)
    (of_decide_eq_true (by kernel_rfl)) (by unfold Func.isWrapper; first | (rw [if_pos (by decide +kernel)]; kernel_rfl) | (rw [if_neg (by decide +kernel)]; exact ⟨rfl, rfl⟩))
    (fun os started H enc _ F => by rw [OpenClaim.pre_eq_preRow]; exact lifted os started H enc F)

theorem proved : Rows.LineMergesSaid :=
  over
#print axioms proved
end Go.Proofs.Ytbbgeccbdellmaa.lineMerges

