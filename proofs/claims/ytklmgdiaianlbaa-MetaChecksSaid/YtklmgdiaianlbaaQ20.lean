/- MtWorks. -/
import Derived.Test.YtklmgdiaianlbaaQ16
import Derived.Test.YtklmgdiaianlbaaQ6
set_option linter.unusedVariables false
set_option linter.unusedSimpArgs false
/- The statements' works. -/
namespace Go.Proofs.Ytklmgdiaianlbaa.mt
open Go Go.RowKit Go.Proofs.Ytklmgdiaianlbaa.ib Go.Proofs.Ytklmgdiaianlbaa.wi Go.Proofs.Ytklmgdiaianlbaa.im
set_option maxRecDepth 100000

def WkG (A0 A1 A2 : Option Addr) (c0 c1 c2 : Nat) : Nat → Value → World → Prop
  | 0, v, _ => v = .int .i64 0
  | 1, v, _ => v = .bool true
  | 2, v, _ => v = .bool true
  | 3, v, _ => v = .string ⟨#[1, 1, 1, 193, 1, 1, 1, 1, 1, 2, 0, 1, 193, 0]⟩
  | 4, v, _ => v = .bool true
  | 5, v, _ => v = .bool true
  | 6, v, _ => v = .bool true
  | 7, v, _ => v = .int .i64 0
  | 8, v, _ => v = .bool true
  | 9, v, _ => v = .bool true
  | 10, v, _ => v = .bool true
  | 11, v, _ => v = .agg #[.slice A0 1 c0, .slice A1 1 c1, .int .u64 0, .int .u64 0, .int .u64 0, .int .u64 0, .int .i64 0, .int .i64 0, .slice A2 0 c2]
  | 12, v, W => ∃ u, v = u ∧ MtAt W u mOne
  | 13, v, _ => v = .bool true
  | 14, v, _ => v = .bool true
  | 15, v, _ => v = .bool true
  | 16, v, _ => v = .agg #[.slice A0 1 c0, .slice A1 1 c1, .int .u64 0, .int .u64 0, .int .u64 0, .int .u64 0, .int .i64 0, .int .i64 0, .slice A2 0 c2]
  | 17, v, _ => v = .int .i64 0
  | 18, v, _ => v = .bool true
  | 19, v, _ => v = .bool true
  | 20, v, _ => v = .bool true
  | _, _, _ => True
theorem WkG_mono (A0 A1 A2 : Option Addr) (c0 c1 c2 : Nat) (i : Nat) (v : Value) (w w' : World) (hi : i < 21) (h : WkG A0 A1 A2 c0 c1 c2 i v w) (hb : Below w.heap.size w w') : WkG A0 A1 A2 c0 c1 c2 i v w' := by
  match i, hi, h with
  | 0, _, h | 1, _, h | 2, _, h | 3, _, h | 4, _, h | 5, _, h | 6, _, h | 7, _, h | 8, _, h | 9, _, h | 10, _, h | 11, _, h | 13, _, h | 14, _, h | 15, _, h | 16, _, h | 17, _, h | 18, _, h | 19, _, h | 20, _, h => exact h
  | 12, _, ⟨u, hv, h2⟩ => exact ⟨u, hv, h2.below hb⟩
  | j + 21, hi, _ => exact absurd hi (by omega)

theorem szOne : mtS mOne := ⟨by decide, by decide, fun s hs => by simp only [mOne, List.mem_singleton] at hs; subst hs; decide, by decide⟩
theorem i64_1 : i64B 1 := by unfold i64B; omega
theorem i64_194 : i64B 194 := by unfold i64B; omega
set_option maxHeartbeats 6400000 in
theorem works_any (H : MImpl) (w : World) : Calls Try.prog 12 #[] w (endB true w) := by
  have HH := Lib.hid H
  clear H
  go_enter Try.func12, Try.ntmps12
  go_wp2_with fail
  refine (one_any w).mono ?_
  rintro e W1 ⟨v1, rfl, hm1, hb1⟩
  have HM1 := Lib.hid hm1
  have HB1 := Lib.hid hb1
  clear hm1 hb1
  dsimp only
  go_wp2_with fail
  have henc := HH.out.enc v1 mOne W1 HM1.out szOne
  rw [wk_enc] at henc
  refine henc.mono ?_
  rintro e W2 ⟨rfl, hb2⟩
  have HB2 := Lib.hid (below_step HB1.out hb2)
  clear henc hb2 HB1 HM1
  dsimp only
  have hS : Value.string (str bOne) = .string ⟨#[1, 1, 1, 193, 1, 1, 1, 1, 1, 2, 0, 1, 193, 0]⟩ := rfl
  rw [hS]
  have hdec := HH.out.dec ⟨#[1, 1, 1, 193, 1, 1, 1, 1, 1, 2, 0, 1, 193, 0]⟩ W2 (by decide)
  rw [show bl (⟨#[1, 1, 1, 193, 1, 1, 1, 1, 1, 2, 0, 1, 193, 0]⟩ : ByteArray) = bOne from rfl, enc_back ⟨fun s hs => (okOne.sn s hs).2.1, gdB0, gdB0⟩ wk_enc] at hdec
  have HD := Lib.hid hdec
  clear hdec hS
  go_wp2_with fail
  refine HD.out.mono ?_
  rintro e W3 ⟨v3, rfl, ⟨A0, A1, A2, c0, c1, c2, rfl, hm3⟩, hb3⟩
  have hb4 := (Below.refl _ W3).alloc (Nat.le_refl _) (.cells (mtC A0 A1 A2 c0 c1 c2 mOne) 30)
  have HB4 := Lib.hid (below_step (below_step HB2.out hb3) hb4)
  have HV4 : Hid (MtAt (W3.alloc (.cells (mtC A0 A1 A2 c0 c1 c2 mOne) 30)) (.agg (mtC A0 A1 A2 c0 c1 c2 mOne)) mOne) := ⟨A0, A1, A2, c0, c1, c2, rfl, hm3.below hb4⟩
  have HA4 := Lib.hid (Blk.new W3 30 (mtC A0 A1 A2 c0 c1 c2 mOne))
  have e9 : mtC A0 A1 A2 c0 c1 c2 mOne = #[.slice A0 1 c0, .slice A1 1 c1, .int .u64 0, .int .u64 0, .int .u64 0, .int .u64 0, .int .i64 0, .int .i64 0, .slice A2 0 c2] := rfl
  rw [e9] at HB4 HV4 HA4
  rw [e9]
  clear hm3 hb3 hb4 e9 HB2 HD
  obtain ⟨W4, hW4⟩ : ∃ z, W3.alloc (.cells #[.slice A0 1 c0, .slice A1 1 c1, .int .u64 0, .int .u64 0, .int .u64 0, .int .u64 0, .int .i64 0, .int .i64 0, .slice A2 0 c2] 30) = z := ⟨_, rfl⟩
  rw [hW4] at HB4 HV4 HA4
  dsimp only
  go_wp2_with fail
  try rw [hW4]
  obtain ⟨g4, hg4⟩ : ∃ z, W3.heap.size = z := ⟨_, rfl⟩
  rw [hg4] at HA4 ⊢
  clear hW4 hg4
  refine wp_region_inv (by kernel_rfl) [15, 16, 17, 18, 19, 20, 21, 22, 23, 24, 25, 26, 27, 28, 29, 30, 31, 32, 33, 34, 0] (by kernel_rfl) (fun L vs W => Below W4.heap.size W4 W ∧ ∀ i, L i = true → i < 21 → WkG A0 A1 A2 c0 c1 c2 i (vs i) W) ⟨(Below.refl _ _).drew, fun i hi => by cases hi⟩ ?_ ?_ ?_
  · intro i o L vs ρ W ho hli haft hρ hgd hI
    obtain ⟨hb, hG'⟩ := hI
    have hG : ∀ j, L j = true → WkG A0 A1 A2 c0 c1 c2 j (vs j) W := fun j hj => by
      by_cases h51 : j < 21
      · exact hG' j hj h51
      · match j, h51 with
        | j + 21, _ => exact trivial
    have hi51 : i < 21 := (Array.getElem?_eq_some_iff.1 ho).1
    have hc := hρ.const
    have hfn := hρ.fn
    have next : ∀ v W', Below W.heap.size W W' → WkG A0 A1 A2 c0 c1 c2 i v W' → Below W4.heap.size W4 W' ∧ ∀ j, updB L i j = true → j < 21 → WkG A0 A1 A2 c0 c1 c2 j (updV vs i v j) W' := fun v W' h1 h2 => by
      refine ⟨below_step hb h1, fun j hj h51 => ?_⟩
      by_cases hji : j = i
      · subst hji
        simpa [updV] using h2
      · simp only [updB, if_neg hji] at hj
        simpa [updV, hji] using WkG_mono A0 A1 A2 c0 c1 c2 j _ W W' h51 (hG' j hj h51) h1
    have hA := HA4.out.below hb
    have a0 := hA.cell 0
    have a1 := hA.cell 1
    have a2 := hA.cell 2
    have a3 := hA.cell 3
    have a4 := hA.cell 4
    have a5 := hA.cell 5
    have a6 := hA.cell 6
    have a7 := hA.cell 7
    have a8 := hA.cell 8
    have hla := hA.lt
    simp only [List.getElem?_toArray, List.getElem?_cons_zero, List.getElem?_cons_succ] at a0 a1 a2 a3 a4 a5 a6 a7 a8
    rcases i with _ | _ | _ | _ | _ | _ | _ | _ | _ | _ | _ | _ | _ | _ | _ | _ | _ | _ | _ | _ | _ | i
    all_goals (first | omega | skip)
    all_goals simp only [List.getElem?_toArray, List.getElem?_cons_zero, List.getElem?_cons_succ, Option.some.injEq] at ho
    all_goals subst ho
    · have o2 : ρ (.tmp 2) = .int .i64 0 := hρ.out 2 rfl
      exact stepTo_value (w' := W) (by unfold execOp; simp only [o2, hc]; go_simp) (next _ _ (Below.refl _ _) rfl)
    · have g15 : WkG A0 A1 A2 c0 c1 c2 0 (vs 0) W := hG 0 (haft 0 (by kernel_rfl))
      have s15 : ρ (.tmp 15) = .int .i64 0 := (hρ.at_ 15 0 rfl).trans g15
      exact stepTo_value (w' := W) (by unfold execOp; simp only [s15, hc]; go_simp) (next _ _ (Below.refl _ _) rfl)
    · have g16 : WkG A0 A1 A2 c0 c1 c2 1 (vs 1) W := hG 1 (haft 1 (by kernel_rfl))
      have s16 : ρ (.tmp 16) = .bool true := (hρ.at_ 16 1 rfl).trans g16
      exact stepTo_value (w' := W) (by unfold execOp; simp only [s16, hc]; go_simp) (next _ _ (Below.refl _ _) rfl)
    · have o1 : ρ (.tmp 1) = .string ⟨#[1, 1, 1, 193, 1, 1, 1, 1, 1, 2, 0, 1, 193, 0]⟩ := hρ.out 1 rfl
      exact stepTo_value (w' := W) (by unfold execOp; simp only [o1, hc]; go_simp) (next _ _ (Below.refl _ _) rfl)
    · have g18 : WkG A0 A1 A2 c0 c1 c2 3 (vs 3) W := hG 3 (haft 3 (by kernel_rfl))
      have s18 : ρ (.tmp 18) = .string ⟨#[1, 1, 1, 193, 1, 1, 1, 1, 1, 2, 0, 1, 193, 0]⟩ := (hρ.at_ 18 3 rfl).trans g18
      exact stepTo_value (w' := W) (by unfold execOp; simp only [s18, hc]; go_simp) (next _ _ (Below.refl _ _) rfl)
    · have g17 : WkG A0 A1 A2 c0 c1 c2 2 (vs 2) W := hG 2 (haft 2 (by kernel_rfl))
      have s17 : ρ (.tmp 17) = .bool true := (hρ.at_ 17 2 rfl).trans g17
      have g19 : WkG A0 A1 A2 c0 c1 c2 4 (vs 4) W := hG 4 (haft 4 (by kernel_rfl))
      have s19 : ρ (.tmp 19) = .bool true := (hρ.at_ 19 4 rfl).trans g19
      exact stepTo_value (w' := W) (by unfold execOp; simp only [s17, s19, hc]; go_simp) (next _ _ (Below.refl _ _) rfl)
    · have g20 : WkG A0 A1 A2 c0 c1 c2 5 (vs 5) W := hG 5 (haft 5 (by kernel_rfl))
      have s20 : ρ (.tmp 20) = .bool true := (hρ.at_ 20 5 rfl).trans g20
      exact stepTo_value (w' := W) (by unfold execOp; simp only [s20, hc]; go_simp) (next _ _ (Below.refl _ _) rfl)
    · have o4 : ρ (.tmp 4) = .int .i64 0 := hρ.out 4 rfl
      exact stepTo_value (w' := W) (by unfold execOp; simp only [o4, hc]; go_simp) (next _ _ (Below.refl _ _) rfl)
    · have g22 : WkG A0 A1 A2 c0 c1 c2 7 (vs 7) W := hG 7 (haft 7 (by kernel_rfl))
      have s22 : ρ (.tmp 22) = .int .i64 0 := (hρ.at_ 22 7 rfl).trans g22
      exact stepTo_value (w' := W) (by unfold execOp; simp only [s22, hc]; go_simp) (next _ _ (Below.refl _ _) rfl)
    · have g21 : WkG A0 A1 A2 c0 c1 c2 6 (vs 6) W := hG 6 (haft 6 (by kernel_rfl))
      have s21 : ρ (.tmp 21) = .bool true := (hρ.at_ 21 6 rfl).trans g21
      have g23 : WkG A0 A1 A2 c0 c1 c2 8 (vs 8) W := hG 8 (haft 8 (by kernel_rfl))
      have s23 : ρ (.tmp 23) = .bool true := (hρ.at_ 23 8 rfl).trans g23
      exact stepTo_value (w' := W) (by unfold execOp; simp only [s21, s23, hc]; go_simp) (next _ _ (Below.refl _ _) rfl)
    · have g24 : WkG A0 A1 A2 c0 c1 c2 9 (vs 9) W := hG 9 (haft 9 (by kernel_rfl))
      have s24 : ρ (.tmp 24) = .bool true := (hρ.at_ 24 9 rfl).trans g24
      exact stepTo_value (w' := W) (by unfold execOp; simp only [s24, hc]; go_simp) (next _ _ (Below.refl _ _) rfl)
    · have o3 : ρ (.tmp 3) = .pointer (some ⟨g4, 0, none⟩) := hρ.out 3 rfl
      exact stepTo_value (w' := W) (by unfold execOp; simp only [o3, hc]; go_simp) (next _ _ (Below.refl _ _) rfl)
    · refine stepTo_enter (f := 45) (args := #[]) (w' := W) (by unfold execOp; simp only [hfn, ]; go_simp) ((one_any W).mono ?_)
      rintro x W' ⟨v12, rfl, hm12, hb'⟩
      exact ⟨_, rfl, next _ _ hb' ⟨v12, rfl, hm12⟩⟩
    · have g26 : WkG A0 A1 A2 c0 c1 c2 11 (vs 11) W := hG 11 (haft 11 (by kernel_rfl))
      have s26 : ρ (.tmp 26) = .agg #[.slice A0 1 c0, .slice A1 1 c1, .int .u64 0, .int .u64 0, .int .u64 0, .int .u64 0, .int .i64 0, .int .i64 0, .slice A2 0 c2] := (hρ.at_ 26 11 rfl).trans g26
      obtain ⟨u27, g27, hh272⟩ : WkG A0 A1 A2 c0 c1 c2 12 (vs 12) W := hG 12 (haft 12 (by kernel_rfl))
      have s27 : ρ (.tmp 27) = u27 := (hρ.at_ 27 12 rfl).trans g27
      refine stepTo_enter (f := 15) (args := #[.agg #[.slice A0 1 c0, .slice A1 1 c1, .int .u64 0, .int .u64 0, .int .u64 0, .int .u64 0, .int .i64 0, .int .i64 0, .slice A2 0 c2], u27]) (w' := W) (by unfold execOp; simp only [hfn, s26, s27]; go_simp) ((HH.out.same _ _ mOne mOne W (HV4.out.below hb) hh272 szOne szOne).mono ?_)
      rintro x W' ⟨rfl, hb'⟩
      exact ⟨_, rfl, next _ _ hb' (congrArg Value.bool (decide_eq_true rfl))⟩
    · have g25 : WkG A0 A1 A2 c0 c1 c2 10 (vs 10) W := hG 10 (haft 10 (by kernel_rfl))
      have s25 : ρ (.tmp 25) = .bool true := (hρ.at_ 25 10 rfl).trans g25
      have g28 : WkG A0 A1 A2 c0 c1 c2 13 (vs 13) W := hG 13 (haft 13 (by kernel_rfl))
      have s28 : ρ (.tmp 28) = .bool true := (hρ.at_ 28 13 rfl).trans g28
      exact stepTo_value (w' := W) (by unfold execOp; simp only [s25, s28, hc]; go_simp) (next _ _ (Below.refl _ _) rfl)
    · have g29 : WkG A0 A1 A2 c0 c1 c2 14 (vs 14) W := hG 14 (haft 14 (by kernel_rfl))
      have s29 : ρ (.tmp 29) = .bool true := (hρ.at_ 29 14 rfl).trans g29
      exact stepTo_value (w' := W) (by unfold execOp; simp only [s29, hc]; go_simp) (next _ _ (Below.refl _ _) rfl)
    · have o3 : ρ (.tmp 3) = .pointer (some ⟨g4, 0, none⟩) := hρ.out 3 rfl
      exact stepTo_value (w' := W) (by unfold execOp; simp only [o3, hc]; go_simp) (next _ _ (Below.refl _ _) rfl)
    · have g31 : WkG A0 A1 A2 c0 c1 c2 16 (vs 16) W := hG 16 (haft 16 (by kernel_rfl))
      have s31 : ρ (.tmp 31) = .agg #[.slice A0 1 c0, .slice A1 1 c1, .int .u64 0, .int .u64 0, .int .u64 0, .int .u64 0, .int .i64 0, .int .i64 0, .slice A2 0 c2] := (hρ.at_ 31 16 rfl).trans g31
      refine stepTo_enter (f := 10) (args := #[.agg #[.slice A0 1 c0, .slice A1 1 c1, .int .u64 0, .int .u64 0, .int .u64 0, .int .u64 0, .int .i64 0, .int .i64 0, .slice A2 0 c2], .int .i64 1, .int .i64 194]) (w' := W) (by unfold execOp; simp only [hfn, s31]; go_simp) ((HH.out.check _ mOne 1 194 W (HV4.out.below hb) szOne i64_1 i64_194).mono ?_)
      rintro x W' ⟨rfl, hb'⟩
      exact ⟨_, rfl, next _ _ hb' (congrArg (Value.int .i64) wk_chk)⟩
    · have g32 : WkG A0 A1 A2 c0 c1 c2 17 (vs 17) W := hG 17 (haft 17 (by kernel_rfl))
      have s32 : ρ (.tmp 32) = .int .i64 0 := (hρ.at_ 32 17 rfl).trans g32
      exact stepTo_value (w' := W) (by unfold execOp; simp only [s32, hc]; go_simp) (next _ _ (Below.refl _ _) rfl)
    · have g30 : WkG A0 A1 A2 c0 c1 c2 15 (vs 15) W := hG 15 (haft 15 (by kernel_rfl))
      have s30 : ρ (.tmp 30) = .bool true := (hρ.at_ 30 15 rfl).trans g30
      have g33 : WkG A0 A1 A2 c0 c1 c2 18 (vs 18) W := hG 18 (haft 18 (by kernel_rfl))
      have s33 : ρ (.tmp 33) = .bool true := (hρ.at_ 33 18 rfl).trans g33
      exact stepTo_value (w' := W) (by unfold execOp; simp only [s30, s33, hc]; go_simp) (next _ _ (Below.refl _ _) rfl)
    · have g34 : WkG A0 A1 A2 c0 c1 c2 19 (vs 19) W := hG 19 (haft 19 (by kernel_rfl))
      have s34 : ρ (.tmp 34) = .bool true := (hρ.at_ 34 19 rfl).trans g34
      exact stepTo_value (w' := W) (by unfold execOp; simp only [s34, hc]; go_simp) (next _ _ (Below.refl _ _) rfl)
  · intro i o L vs W j want ho hli haft hg hv hI
    obtain ⟨hb, hG'⟩ := hI
    have hG : ∀ j, L j = true → WkG A0 A1 A2 c0 c1 c2 j (vs j) W := fun j hj => by
      by_cases h51 : j < 21
      · exact hG' j hj h51
      · match j, h51 with
        | j + 21, _ => exact trivial
    have hi51 : i < 21 := (Array.getElem?_eq_some_iff.1 ho).1
    rcases i with _ | _ | _ | _ | _ | _ | _ | _ | _ | _ | _ | _ | _ | _ | _ | _ | _ | _ | _ | _ | _ | i
    all_goals (first | omega | skip)
    all_goals simp only [List.getElem?_toArray, List.getElem?_cons_zero, List.getElem?_cons_succ, Option.some.injEq] at ho
    all_goals subst ho
    all_goals simp only [reduceCtorEq, Option.some.injEq, Prod.mk.injEq] at hg
    · obtain ⟨rfl, rfl⟩ := hg
      exact (hv (hG 2 (haft 2 (by kernel_rfl)))).elim
    · obtain ⟨rfl, rfl⟩ := hg
      exact (hv (hG 2 (haft 2 (by kernel_rfl)))).elim
    · obtain ⟨rfl, rfl⟩ := hg
      exact (hv (hG 6 (haft 6 (by kernel_rfl)))).elim
    · obtain ⟨rfl, rfl⟩ := hg
      exact (hv (hG 6 (haft 6 (by kernel_rfl)))).elim
    · obtain ⟨rfl, rfl⟩ := hg
      exact (hv (hG 10 (haft 10 (by kernel_rfl)))).elim
    · obtain ⟨rfl, rfl⟩ := hg
      exact (hv (hG 10 (haft 10 (by kernel_rfl)))).elim
    · obtain ⟨rfl, rfl⟩ := hg
      exact (hv (hG 10 (haft 10 (by kernel_rfl)))).elim
    · obtain ⟨rfl, rfl⟩ := hg
      exact (hv (hG 15 (haft 15 (by kernel_rfl)))).elim
    · obtain ⟨rfl, rfl⟩ := hg
      exact (hv (hG 15 (haft 15 (by kernel_rfl)))).elim
    · obtain ⟨rfl, rfl⟩ := hg
      exact (hv (hG 15 (haft 15 (by kernel_rfl)))).elim
  · intro vs W hI
    have g34 : vs 20 = .bool true := hI.2 20 (by decide) (by decide)
    have hbW := Lib.hid (below_step HB4.out hI.1)
    clear hI
    go_wp2_with fail
    exact bodyPost_slot 20 rfl (by decide +kernel) (by kernel_rfl) rfl g34 ⟨rfl, hbW.out⟩
end Go.Proofs.Ytklmgdiaianlbaa.mt

