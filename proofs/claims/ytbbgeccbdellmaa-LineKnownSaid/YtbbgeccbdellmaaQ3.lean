/- LnFur, LnRef, LnRMg, LnMrg, LnCom, LnPCo, LnSty. -/
import Derived.Test.YtbbgeccbdellmaaQ1
import Derived.Test.YtbbgeccbdellmaaQ2
import Derived.LoopTactic
import Derived.BigQuiet
set_option linter.unusedVariables false
set_option linter.unusedSimpArgs false
/- The program's answer: which line is further. -/
namespace Go.Proofs.Ytbbgeccbdellmaa.ln
open Go Go.RowKit Go.Sort Go.Proofs.Ytbbgeccbdellmaa Go.Proofs.Ytbbgeccbdellmaa.ib Go.Proofs.Ytbbgeccbdellmaa.lg
set_option maxRecDepth 100000

/-- The k-th mark. -/
def mkN (L : Ln) (k : Nat) : Int := if k = 0 then (L.ep : Int) else if k = 1 then (L.gs.length : Int) else mkS L
theorem mkS_lt (L M : Ln) : mkS L = mkS M ↔ L.ls = M.ls := by
  unfold mkS
  cases L.ls <;> cases M.ls <;> simp
/-- Two rows of marks, compared. -/
theorem eq_marks (a b c x y z : Int) (w : World) : (Op.equalIn 10000 48 (.agg #[.int .u64 a, .int .u64 b, .int .u64 c]) (.agg #[.int .u64 x, .int .u64 y, .int .u64 z])).run Try.prog w = .ok (a == x && (b == y && c == z)) w := by
  have u3 := Try.underlying22
  have a3 := Try.isAgg22
  have z3 := Try.sizeOf22
  rw [show (10000 : Nat) = 9999 + 1 from rfl, Op.equalIn]
  simp only [Sem.run_bind, run_underlying Try.underlying48, Result.andThen_ok]
  simp only [Std.Legacy.Range.forIn_eq_forIn_range', Std.Legacy.Range.size, Nat.sub_zero, Nat.add_sub_cancel, Nat.div_one, List.range'_succ, List.range'_zero, List.forIn_cons, List.forIn_nil]
  go_simp
  by_cases h1 : a = x <;> by_cases h2 : b = y <;> by_cases h3 : c = z <;> simp [h1, h2, h3]
/-- What the marks tell. -/
def Tell (p0 p1 p2 q0 q1 q2 : Int) (r : Bool) : Prop :=
  (p0 = q0 ∧ p1 = q1 ∧ p2 = q2 ∧ r = false) ∨ (p0 ≠ q0 ∧ r = decide (q0 < p0)) ∨ (p0 = q0 ∧ p1 ≠ q1 ∧ r = decide (q1 < p1)) ∨ (p0 = q0 ∧ p1 = q1 ∧ p2 ≠ q2 ∧ r = decide (q2 < p2))
theorem mks_tell (L M : Ln) : Tell (mkN L 0) (mkN L 1) (mkN L 2) (mkN M 0) (mkN M 1) (mkN M 2) (fur L M) := by
  unfold Tell fur
  have e0 : ∀ X : Ln, mkN X 0 = (X.ep : Int) := fun _ => rfl
  have e1 : ∀ X : Ln, mkN X 1 = (X.gs.length : Int) := fun _ => rfl
  have e2 : ∀ X : Ln, mkN X 2 = mkS X := fun _ => rfl
  simp only [e0, e1, e2]
  by_cases h1 : L.ep = M.ep
  · by_cases h2 : L.gs.length = M.gs.length
    · by_cases h3 : L.ls = M.ls
      · left
        refine ⟨by omega, by omega, (mkS_lt L M).2 h3, ?_⟩
        rw [if_pos h1, if_pos h2, h3]
        cases M.ls <;> rfl
      · right; right; right
        refine ⟨by omega, by omega, fun e => h3 ((mkS_lt L M).1 e), ?_⟩
        unfold mkS
        rw [if_pos h1, if_pos h2]
        revert h3
        cases L.ls <;> cases M.ls <;> simp
    · right; right; left
      refine ⟨by omega, by omega, ?_⟩
      rw [if_pos h1, if_neg h2]
      simp
  · right; left
    refine ⟨by omega, ?_⟩
    rw [if_neg h1]
    simp

def FuG (L M : Ln) (A B : Option Addr) (c d n : Nat) : Nat → Value → World → Prop
  | 0, v, _ => v = .agg #[.int .u64 (L.ep : Int), .int .i64 L.bf, .bool L.ls, .slice A L.gs.length c]
  | 1, v, _ => v = mkV L
  | 2, v, _ => v = .agg #[.int .u64 (M.ep : Int), .int .i64 M.bf, .bool M.ls, .slice B M.gs.length d]
  | 3, v, _ => v = mkV M
  | 4, v, W => ∃ g, v = .pointer (some ⟨g, 0, none⟩) ∧ n ≤ g ∧ Blk W g 48 #[.int .u64 0, .int .u64 0, .int .u64 0]
  | 5, v, W => ∃ g, v = .pointer (some ⟨g, 0, none⟩) ∧ n ≤ g ∧ Blk W g 48 #[.int .u64 0, .int .u64 0, .int .u64 0]
  | _, _, _ => True
theorem FuG_mono (L M : Ln) (A B : Option Addr) (c d n : Nat) (i : Nat) (v : Value) (w w' : World) (hi : i < 6) (h : FuG L M A B c d n i v w) (hb : Below w.heap.size w w') : FuG L M A B c d n i v w' := by
  match i, hi, h with
  | 0, _, h | 1, _, h | 2, _, h | 3, _, h => exact h
  | 4, _, ⟨g, hv, h1, h2⟩ => exact ⟨g, hv, h1, h2.below hb⟩
  | 5, _, ⟨g, hv, h1, h2⟩ => exact ⟨g, hv, h1, h2.below hb⟩
  | j + 6, hi, _ => exact absurd hi (by omega)
def FrRel (d : Nat) (w : World) (i : Value) (wr : World) : Prop := ∃ k : Nat, k ≤ d ∧ i = .int .i64 (k : Int) ∧ Below w.heap.size w wr

set_option maxHeartbeats 3200000 in
theorem further_any (v u : Value) (L M : Ln) (w : World) (hv : LnAt w v L) (hu : LnAt w u M) (hl : L.gs.length ≤ 9223372036854775807) (hm : M.gs.length ≤ 9223372036854775807) :
    Calls Try.prog 29 #[v, u] w (endB (fur L M) w) := by
  obtain ⟨A, c, rfl, hA⟩ := hv
  obtain ⟨B, d, rfl, hB⟩ := hu
  obtain ⟨hx, hy, hb⟩ := two_new w (lnV L (.slice A L.gs.length c)) (lnV M (.slice B M.gs.length d)) 25 25
  unfold lnV at hx hy hb
  obtain ⟨W2, hW2⟩ : ∃ z, (w.alloc (.cells #[.int .u64 (L.ep : Int), .int .i64 L.bf, .bool L.ls, .slice A L.gs.length c] 25)).alloc (.cells #[.int .u64 (M.ep : Int), .int .i64 M.bf, .bool M.ls, .slice B M.gs.length d] 25) = z := ⟨_, rfl⟩
  rw [hW2] at hx hy hb
  have HLa : Hid (LnAt W2 (.agg #[.int .u64 (L.ep : Int), .int .i64 L.bf, .bool L.ls, .slice A L.gs.length c]) L) := ⟨A, c, rfl, hA.below hb⟩
  have HLb : Hid (LnAt W2 (.agg #[.int .u64 (M.ep : Int), .int .i64 M.bf, .bool M.ls, .slice B M.gs.length d]) M) := ⟨B, d, rfl, hB.below hb⟩
  have HB := Lib.hid hb
  have HX := Lib.hid hx
  have HY := Lib.hid hy
  have HT := Lib.hid (mks_tell L M)
  go_enter Try.func29, Try.ntmps29
  go_upto_region 1 with fail
  try rw [hW2]
  clear hW2 hA hB hb hx hy
  refine wp_region_pre (by kernel_rfl) 6 [8, 9, 10, 11, 5, 6] (by kernel_rfl) (fun L' vs W => Below W2.heap.size W2 W ∧ (L' 4 = true → L' 5 = true → vs 4 ≠ vs 5) ∧ ∀ i, L' i = true → i < 6 → FuG L M A B c d W2.heap.size i (vs i) W) ⟨(Below.refl _ _).drew, fun h => (by cases h), fun i hi => (by cases hi)⟩ ?_ ?_
  · intro i o L' vs ρ W hi51 ho hli haft hρ hI
    obtain ⟨hb, hD, hG'⟩ := hI
    have hG : ∀ j, L' j = true → FuG L M A B c d W2.heap.size j (vs j) W := fun j hj => by
      by_cases h51 : j < 6
      · exact hG' j hj h51
      · match j, h51 with
        | j + 6, _ => exact trivial
    have hc := hρ.const
    have hfn := hρ.fn
    have nextG : ∀ v W', Below W.heap.size W W' → FuG L M A B c d W2.heap.size i v W' → ∀ j, updB L' i j = true → j < 6 → FuG L M A B c d W2.heap.size j (updV vs i v j) W' := fun v W' h1 h2 j hj h51 => by
      by_cases hji : j = i
      · subst hji
        simpa [updV] using h2
      · simp only [updB, if_neg hji] at hj
        simpa [updV, hji] using FuG_mono L M A B c d W2.heap.size j _ W W' h51 (hG' j hj h51) h1
    have next : i ≠ 4 → i ≠ 5 → ∀ v W', Below W.heap.size W W' → FuG L M A B c d W2.heap.size i v W' → Below W2.heap.size W2 W' ∧ (updB L' i 4 = true → updB L' i 5 = true → updV vs i v 4 ≠ updV vs i v 5) ∧ ∀ j, updB L' i j = true → j < 6 → FuG L M A B c d W2.heap.size j (updV vs i v j) W' := fun n4 n5 v W' h1 h2 => by
      refine ⟨below_step hb h1, ?_, nextG v W' h1 h2⟩
      simp only [updB, updV, if_neg (Ne.symm n4), if_neg (Ne.symm n5)]
      exact hD
    obtain ⟨x0, x1, x2, x3⟩ := blk_ln (HX.out.below hb)
    obtain ⟨y0, y1, y2, y3⟩ := blk_ln (HY.out.below hb)
    have hlx := (HX.out.below hb).lt
    have hly := (HY.out.below hb).lt
    have hlt : ∀ j, 4 ≤ j → j < 6 → L' j = true → vs j ≠ .pointer (some ⟨W.heap.size, 0, none⟩) := fun j h4 h6 hj e => by
      have h := hG' j hj h6
      rcases (show j = 4 ∨ j = 5 by omega) with rfl | rfl
      all_goals
        obtain ⟨g, hv, _, hk⟩ := h
        rw [hv] at e
        simp only [Value.pointer.injEq, Option.some.injEq, Addr.mk.injEq, and_true] at e
        have := hk.lt
        omega
    rcases i with _ | _ | _ | _ | _ | _ | i
    all_goals (first | omega | skip)
    all_goals simp only [List.getElem?_toArray, List.getElem?_cons_zero, List.getElem?_cons_succ, Option.some.injEq] at ho
    all_goals subst ho
    · have o2 : ρ (.tmp 2) = .pointer (some ⟨w.heap.size, 0, none⟩) := hρ.out 2 rfl
      exact stepTo_value (w' := W) (by unfold execOp; simp only [o2, hc]; go_simp) (next (by decide) (by decide) _ _ (Below.refl _ _) rfl)
    · have g8 : FuG L M A B c d W2.heap.size 0 (vs 0) W := hG 0 (haft 0 (by kernel_rfl))
      have s8 : ρ (.tmp 8) = .agg #[.int .u64 (L.ep : Int), .int .i64 L.bf, .bool L.ls, .slice A L.gs.length c] := (hρ.at_ 8 0 rfl).trans g8
      refine stepTo_enter (f := 34) (args := #[.agg #[.int .u64 (L.ep : Int), .int .i64 L.bf, .bool L.ls, .slice A L.gs.length c]]) (w' := W) (by unfold execOp; simp only [hfn, s8]; go_simp) ((marks_any _ L W (HLa.out.below hb) hl).mono ?_)
      rintro x W' ⟨rfl, hb'⟩
      exact ⟨_, rfl, next (by decide) (by decide) _ _ hb' rfl⟩
    · have o3 : ρ (.tmp 3) = .pointer (some ⟨w.heap.size + 1, 0, none⟩) := hρ.out 3 rfl
      exact stepTo_value (w' := W) (by unfold execOp; simp only [o3, hc]; go_simp) (next (by decide) (by decide) _ _ (Below.refl _ _) rfl)
    · have g10 : FuG L M A B c d W2.heap.size 2 (vs 2) W := hG 2 (haft 2 (by kernel_rfl))
      have s10 : ρ (.tmp 10) = .agg #[.int .u64 (M.ep : Int), .int .i64 M.bf, .bool M.ls, .slice B M.gs.length d] := (hρ.at_ 10 2 rfl).trans g10
      refine stepTo_enter (f := 34) (args := #[.agg #[.int .u64 (M.ep : Int), .int .i64 M.bf, .bool M.ls, .slice B M.gs.length d]]) (w' := W) (by unfold execOp; simp only [hfn, s10]; go_simp) ((marks_any _ M W (HLb.out.below hb) hm).mono ?_)
      rintro x W' ⟨rfl, hb'⟩
      exact ⟨_, rfl, next (by decide) (by decide) _ _ hb' rfl⟩
    · refine stepTo_value (v := .pointer (some ⟨W.heap.size, 0, none⟩)) (w' := W.alloc (.cells #[.int .u64 0, .int .u64 0, .int .u64 0] 48)) (by unfold execOp; simp only [hc]; go_simp) ?_
      have hb1 : Below W.heap.size W (W.alloc (.cells #[.int .u64 0, .int .u64 0, .int .u64 0] 48)) := (Below.refl _ W).alloc (Nat.le_refl _) _
      refine ⟨below_step hb hb1, fun _ h5 => ?_, nextG _ _ hb1 ⟨W.heap.size, rfl, hb.size, Blk.new _ _ _⟩⟩
      have h5' : L' 5 = true := by simpa [updB] using h5
      simp only [updV, if_true]
      exact fun e => hlt 5 (by omega) (by omega) h5' (by simpa using e.symm)
    · refine stepTo_value (v := .pointer (some ⟨W.heap.size, 0, none⟩)) (w' := W.alloc (.cells #[.int .u64 0, .int .u64 0, .int .u64 0] 48)) (by unfold execOp; simp only [hc]; go_simp) ?_
      have hb1 : Below W.heap.size W (W.alloc (.cells #[.int .u64 0, .int .u64 0, .int .u64 0] 48)) := (Below.refl _ W).alloc (Nat.le_refl _) _
      refine ⟨below_step hb hb1, fun h4 _ => ?_, nextG _ _ hb1 ⟨W.heap.size, rfl, hb.size, Blk.new _ _ _⟩⟩
      have h4' : L' 4 = true := by simpa [updB] using h4
      simp only [updV, if_true]
      exact fun e => hlt 4 (by omega) (by omega) h4' (by simpa using e)
  · intro L' vs W3 hL hI
    obtain ⟨hb, hD, hG⟩ := hI
    have hd := hD (hL 4 (by decide)) (hL 5 (by decide))
    have g1 : vs 1 = mkV L := hG 1 (hL 1 (by decide)) (by decide)
    have g3 : vs 3 = mkV M := hG 3 (hL 3 (by decide)) (by decide)
    obtain ⟨ga, g4, hga, hka⟩ : ∃ g, vs 4 = .pointer (some ⟨g, 0, none⟩) ∧ W2.heap.size ≤ g ∧ Blk W3 g 48 #[.int .u64 0, .int .u64 0, .int .u64 0] := hG 4 (hL 4 (by decide)) (by decide)
    obtain ⟨gb, g5, hgb, hkb⟩ : ∃ g, vs 5 = .pointer (some ⟨g, 0, none⟩) ∧ W2.heap.size ≤ g ∧ Blk W3 g 48 #[.int .u64 0, .int .u64 0, .int .u64 0] := hG 5 (hL 5 (by decide)) (by decide)
    have hne : ga ≠ gb := fun e => hd (by rw [g4, g5, e])
    have hKA : Blk (mkP (mkP W3 ga (.int .u64 (mkN L 0)) (.int .u64 (mkN L 1)) (.int .u64 (mkN L 2))) gb (.int .u64 (mkN M 0)) (.int .u64 (mkN M 1)) (.int .u64 (mkN M 2))) ga 48 #[.int .u64 (mkN L 0), .int .u64 (mkN L 1), .int .u64 (mkN L 2)] := (mkP_blk hka _ _ _).of_block (mkP_oth _ _ _ _ _ hne)
    have hKB : Blk (mkP (mkP W3 ga (.int .u64 (mkN L 0)) (.int .u64 (mkN L 1)) (.int .u64 (mkN L 2))) gb (.int .u64 (mkN M 0)) (.int .u64 (mkN M 1)) (.int .u64 (mkN M 2))) gb 48 #[.int .u64 (mkN M 0), .int .u64 (mkN M 1), .int .u64 (mkN M 2)] := mkP_blk (hkb.of_block (mkP_oth _ _ _ _ _ (Ne.symm hne))) _ _ _
    have hBB : Below W2.heap.size W2 (mkP (mkP W3 ga (.int .u64 (mkN L 0)) (.int .u64 (mkN L 1)) (.int .u64 (mkN L 2))) gb (.int .u64 (mkN M 0)) (.int .u64 (mkN M 1)) (.int .u64 (mkN M 2))) := mkP_below (mkP_below hb hga _ _ _) hgb _ _ _
    have HKA := Lib.hid hKA
    have HKB := Lib.hid hKB
    have HBB := Lib.hid (below_step HB.out hBB)
    obtain ⟨a0, a1, a2⟩ := blk_3 hka
    obtain ⟨b0, b1, b2⟩ := blk_3 hkb
    have fa0 := hka.frozen 0
    have fa1 := hka.frozen 1
    have fa2 := hka.frozen 2
    have fb0 := hkb.frozen 0
    have fb1 := hkb.frozen 1
    have fb2 := hkb.frozen 2
    have hla := hka.lt
    have hlb := hkb.lt
    clear hL hG hD hd hga hgb hka hkb hb hKA hKB hBB HX HY HLa HLb
    simp only [putList, putSel, if_true]
    rw [g1, g3, g4, g5]
    generalize vs 0 = z0
    generalize vs 2 = z2
    clear g1 g3 g4 g5
    unfold mkV
    simp only [Act.put, List.setIfInBounds_toArray, List.set_cons_succ, List.set_cons_zero]
    refine wpAny_one (i := 6) (by kernel_rfl) rfl rfl ?_
    go_simp
    refine wpAny_one (i := 7) (by kernel_rfl) rfl rfl ?_
    go_simp
    refine ⟨by kernel_rfl, ?_⟩
    show Exit.then _ _ Exit.normal _ (mkP (mkP W3 ga (.int .u64 (mkN L 0)) (.int .u64 (mkN L 1)) (.int .u64 (mkN L 2))) gb (.int .u64 (mkN M 0)) (.int .u64 (mkN M 1)) (.int .u64 (mkN M 2)))
    obtain ⟨W4, hW4⟩ : ∃ z, mkP (mkP W3 ga (.int .u64 (mkN L 0)) (.int .u64 (mkN L 1)) (.int .u64 (mkN L 2))) gb (.int .u64 (mkN M 0)) (.int .u64 (mkN M 1)) (.int .u64 (mkN M 2)) = z := ⟨_, rfl⟩
    rw [hW4] at HKA HKB HBB ⊢
    clear hW4 a0 a1 a2 b0 b1 b2 fa0 fa1 fa2 fb0 fb1 fb2 hla hlb
    obtain ⟨r, hr⟩ : ∃ r, fur L M = r := ⟨_, rfl⟩
    rw [hr] at HT
    have HRR := Lib.hid hr
    clear hr
    obtain ⟨c0, c1, c2⟩ := blk_3 HKA.out
    obtain ⟨d0, d1, d2⟩ := blk_3 HKB.out
    have hla := HKA.out.lt
    have hlb := HKB.out.lt
    clear HKA HKB
    generalize mkN L 0 = p0 at *
    generalize mkN L 1 = p1 at *
    generalize mkN L 2 = p2 at *
    generalize mkN M 0 = q0 at *
    generalize mkN M 1 = q1 at *
    generalize mkN M 2 = q2 at *
    rcases HT.out with ⟨rfl, rfl, rfl, rfl⟩ | ⟨hn, rfl⟩ | ⟨rfl, hn, rfl⟩ | ⟨rfl, rfl, hn, rfl⟩
    · clear HT
      have qe := eq_marks p0 p1 p2 p0 p1 p2 W4
      rw [show (p0 == p0 && (p1 == p1 && p2 == p2)) = true by simp] at qe
      go_wp2_with fail
      go_ret
      exact ⟨by rw [HRR.out]; rfl, HBB.out⟩
    · clear HT
      have hnb : (p0 == q0) = false := by simpa using hn
      have qe := eq_marks p0 p1 p2 q0 q1 q2 W4
      rw [show (p0 == q0 && (p1 == q1 && p2 == q2)) = false by simp [hn]] at qe
      go_wp2_with fail
      go_loopw [7] (fun i wr => FrRel 0 W4 i wr) (fun i _ => 0 - (intOf i).toNat)
      case atStart => exact ⟨0, by omega, rfl, Below.refl _ _⟩
      case round =>
        obtain ⟨k, hk, rfl, hbw⟩ := hrel
        have HBW := Lib.hid hbw
        have hla2 : ga < wr.heap.size := Nat.lt_of_lt_of_le hla hbw.size
        have hlb2 : gb < wr.heap.size := Nat.lt_of_lt_of_le hlb hbw.size
        rw [← hbw.cell (p := ⟨ga, 0, none⟩) hla] at c0
        rw [← hbw.cell (p := ⟨gb, 0, none⟩) hlb] at d0
        rw [← hbw.cell (p := ⟨ga, 1, none⟩) hla] at c1
        rw [← hbw.cell (p := ⟨gb, 1, none⟩) hlb] at d1
        rw [← hbw.cell (p := ⟨ga, 2, none⟩) hla] at c2
        rw [← hbw.cell (p := ⟨gb, 2, none⟩) hlb] at d2
        clear hbw
        obtain rfl : k = 0 := by omega
        go_wp2_with fail
        go_quiet (fail)
        have HB2 := Lib.hid (below_drewN HBW.out nq)
        go_wp2_with fail
        clear qe
        have HB3 := Lib.hid (below_step HBB.out HB2.out)
        have HB5 := Lib.hid (below_step HBB.out HBW.out)
        clear HBW HB2 HBB
        by_cases hlt : q0 < p0
        · have HF : Hid (fur L M = true) := by unfold Hid; rw [HRR.out, decide_eq_true hlt]
          go_quiet (fail)
          have HB4 := Lib.hid (below_drewN HB3.out nq)
          go_wp2_with fail
          go_ret
          exact ⟨by rw [HF.out]; rfl, by first | exact HB4.out | exact below_drewN HB5.out _⟩
        · have HF : Hid (fur L M = false) := by unfold Hid; rw [HRR.out, decide_eq_false hlt]
          go_quiet (fail)
          have HB4 := Lib.hid (below_drewN HB3.out nq)
          go_wp2_with fail
          go_ret
          exact ⟨by rw [HF.out]; rfl, by first | exact HB4.out | exact below_drewN HB5.out _⟩
    · clear HT
      have hnb : (p1 == q1) = false := by simpa using hn
      have qe := eq_marks p0 p1 p2 p0 q1 q2 W4
      rw [show (p0 == p0 && (p1 == q1 && p2 == q2)) = false by simp [hn]] at qe
      go_wp2_with fail
      go_loopw [7] (fun i wr => FrRel 1 W4 i wr) (fun i _ => 1 - (intOf i).toNat)
      case atStart => exact ⟨0, by omega, rfl, Below.refl _ _⟩
      case round =>
        obtain ⟨k, hk, rfl, hbw⟩ := hrel
        have HBW := Lib.hid hbw
        have hla2 : ga < wr.heap.size := Nat.lt_of_lt_of_le hla hbw.size
        have hlb2 : gb < wr.heap.size := Nat.lt_of_lt_of_le hlb hbw.size
        rw [← hbw.cell (p := ⟨ga, 0, none⟩) hla] at c0
        rw [← hbw.cell (p := ⟨gb, 0, none⟩) hlb] at d0
        rw [← hbw.cell (p := ⟨ga, 1, none⟩) hla] at c1
        rw [← hbw.cell (p := ⟨gb, 1, none⟩) hlb] at d1
        rw [← hbw.cell (p := ⟨ga, 2, none⟩) hla] at c2
        rw [← hbw.cell (p := ⟨gb, 2, none⟩) hlb] at d2
        clear hbw
        rcases (show k = 0 ∨ k = 1 by omega) with rfl | rfl
        · go_wp2_with fail
          go_quiet (fail)
          have HB2 := Lib.hid (below_drewN HBW.out nq)
          go_wp2_with fail
          go_roundw
          case rel => exact ⟨1, by omega, by go_num, HB2.out⟩
          case measure => simp [intOf]
        · go_wp2_with fail
          go_quiet (fail)
          have HB2 := Lib.hid (below_drewN HBW.out nq)
          go_wp2_with fail
          clear qe
          have HB3 := Lib.hid (below_step HBB.out HB2.out)
          have HB5 := Lib.hid (below_step HBB.out HBW.out)
          clear HBW HB2 HBB
          by_cases hlt : q1 < p1
          · have HF : Hid (fur L M = true) := by unfold Hid; rw [HRR.out, decide_eq_true hlt]
            go_quiet (fail)
            have HB4 := Lib.hid (below_drewN HB3.out nq)
            go_wp2_with fail
            go_ret
            exact ⟨by rw [HF.out]; rfl, by first | exact HB4.out | exact below_drewN HB5.out _⟩
          · have HF : Hid (fur L M = false) := by unfold Hid; rw [HRR.out, decide_eq_false hlt]
            go_quiet (fail)
            have HB4 := Lib.hid (below_drewN HB3.out nq)
            go_wp2_with fail
            go_ret
            exact ⟨by rw [HF.out]; rfl, by first | exact HB4.out | exact below_drewN HB5.out _⟩
    · clear HT
      have hnb : (p2 == q2) = false := by simpa using hn
      have qe := eq_marks p0 p1 p2 p0 p1 q2 W4
      rw [show (p0 == p0 && (p1 == p1 && p2 == q2)) = false by simp [hn]] at qe
      go_wp2_with fail
      go_loopw [7] (fun i wr => FrRel 2 W4 i wr) (fun i _ => 2 - (intOf i).toNat)
      case atStart => exact ⟨0, by omega, rfl, Below.refl _ _⟩
      case round =>
        obtain ⟨k, hk, rfl, hbw⟩ := hrel
        have HBW := Lib.hid hbw
        have hla2 : ga < wr.heap.size := Nat.lt_of_lt_of_le hla hbw.size
        have hlb2 : gb < wr.heap.size := Nat.lt_of_lt_of_le hlb hbw.size
        rw [← hbw.cell (p := ⟨ga, 0, none⟩) hla] at c0
        rw [← hbw.cell (p := ⟨gb, 0, none⟩) hlb] at d0
        rw [← hbw.cell (p := ⟨ga, 1, none⟩) hla] at c1
        rw [← hbw.cell (p := ⟨gb, 1, none⟩) hlb] at d1
        rw [← hbw.cell (p := ⟨ga, 2, none⟩) hla] at c2
        rw [← hbw.cell (p := ⟨gb, 2, none⟩) hlb] at d2
        clear hbw
        rcases (show k = 0 ∨ k = 1 ∨ k = 2 by omega) with rfl | rfl | rfl
        · go_wp2_with fail
          go_quiet (fail)
          have HB2 := Lib.hid (below_drewN HBW.out nq)
          go_wp2_with fail
          go_roundw
          case rel => exact ⟨1, by omega, by go_num, HB2.out⟩
          case measure => simp [intOf]
        · go_wp2_with fail
          go_quiet (fail)
          have HB2 := Lib.hid (below_drewN HBW.out nq)
          go_wp2_with fail
          go_roundw
          case rel => exact ⟨2, by omega, by go_num, HB2.out⟩
          case measure => simp [intOf]
        · go_wp2_with fail
          go_quiet (fail)
          have HB2 := Lib.hid (below_drewN HBW.out nq)
          go_wp2_with fail
          clear qe
          have HB3 := Lib.hid (below_step HBB.out HB2.out)
          have HB5 := Lib.hid (below_step HBB.out HBW.out)
          clear HBW HB2 HBB
          by_cases hlt : q2 < p2
          · have HF : Hid (fur L M = true) := by unfold Hid; rw [HRR.out, decide_eq_true hlt]
            go_quiet (fail)
            have HB4 := Lib.hid (below_drewN HB3.out nq)
            go_wp2_with fail
            go_ret
            exact ⟨by rw [HF.out]; rfl, by first | exact HB4.out | exact below_drewN HB5.out _⟩
          · have HF : Hid (fur L M = false) := by unfold Hid; rw [HRR.out, decide_eq_false hlt]
            go_quiet (fail)
            have HB4 := Lib.hid (below_drewN HB3.out nq)
            go_wp2_with fail
            go_ret
            exact ⟨by rw [HF.out]; rfl, by first | exact HB4.out | exact below_drewN HB5.out _⟩
end Go.Proofs.Ytbbgeccbdellmaa.ln

/- The document's answers: which line is further, what is common. -/
namespace Go.Proofs.Ytbbgeccbdellmaa.ln
open Go Go.RowKit Go.Sort Go.Proofs.Ytbbgeccbdellmaa.ib Go.Proofs.Ytbbgeccbdellmaa.lg
set_option maxRecDepth 100000

set_option maxHeartbeats 1600000 in
theorem rfur_any (v u : Value) (L M : Ln) (w : World) (hv : LnAt w v L) (hu : LnAt w u M) :
    Calls Try.prog 31 #[v, u] w (endB (fur L M) w) := by
  obtain ⟨A, c, rfl, hA⟩ := hv
  obtain ⟨B, d, rfl, hB⟩ := hu
  have HB2 := Lib.hid (below_new (below_new (Below.refl w.heap.size w) (.cells #[.int .u64 (L.ep : Int), .int .i64 L.bf, .bool L.ls, .slice A L.gs.length c] 25)) (.cells #[.int .u64 (M.ep : Int), .int .i64 M.bf, .bool M.ls, .slice B M.gs.length d] 25))
  clear hA hB
  obtain ⟨r, hr⟩ : ∃ r, fur L M = r := ⟨_, rfl⟩
  rw [hr]
  unfold fur at hr
  generalize L.ep = e1 at *
  generalize M.ep = e2 at *
  generalize L.bf = b1 at *
  generalize M.bf = b2 at *
  generalize L.gs.length = n1 at *
  generalize M.gs.length = n2 at *
  generalize L.ls = s1 at *
  generalize M.ls = s2 at *
  by_cases h1 : e1 = e2
  · subst h1
    rw [if_pos rfl] at hr
    have q1 : ((e1 : Int) != (e1 : Int)) = false := by simp
    by_cases h2 : n1 = n2
    · subst h2
      rw [if_pos rfl] at hr
      have q2 : ((n1 : Int) != (n1 : Int)) = false := by simp
      cases s1 <;> cases s2 <;> (
        simp only [Bool.not_false, Bool.not_true, Bool.and_true, Bool.and_false, Bool.true_and, Bool.false_and] at hr
        subst hr
        go_enter Try.func31, Try.ntmps31
        go_wp2_with fail
        go_ret
        exact ⟨rfl, HB2.out⟩)
    · rw [if_neg h2] at hr
      have q2 : ((n1 : Int) != (n2 : Int)) = true := by simp; omega
      by_cases h3 : n2 < n1
      · have h3i : (n2 : Int) < (n1 : Int) := by omega
        rw [decide_eq_true h3] at hr
        subst hr
        clear h2 h3
        go_enter Try.func31, Try.ntmps31
        go_wp2_with fail
        go_ret
        exact ⟨rfl, HB2.out⟩
      · have h3i : ¬ (n2 : Int) < (n1 : Int) := by omega
        rw [decide_eq_false h3] at hr
        subst hr
        clear h2 h3
        go_enter Try.func31, Try.ntmps31
        go_wp2_with fail
        go_ret
        exact ⟨rfl, HB2.out⟩
  · rw [if_neg h1] at hr
    have q1 : ((e1 : Int) != (e2 : Int)) = true := by simp; omega
    by_cases h3 : e2 < e1
    · have h3i : (e2 : Int) < (e1 : Int) := by omega
      rw [decide_eq_true h3] at hr
      subst hr
      clear h1 h3
      go_enter Try.func31, Try.ntmps31
      go_wp2_with fail
      go_ret
      exact ⟨rfl, HB2.out⟩
    · have h3i : ¬ (e2 : Int) < (e1 : Int) := by omega
      rw [decide_eq_false h3] at hr
      subst hr
      clear h1 h3
      go_enter Try.func31, Try.ntmps31
      go_wp2_with fail
      go_ret
      exact ⟨rfl, HB2.out⟩
end Go.Proofs.Ytbbgeccbdellmaa.ln

/- The document's answer: which of two lines. -/
namespace Go.Proofs.Ytbbgeccbdellmaa.ln
open Go Go.RowKit Go.Sort Go.Proofs.Ytbbgeccbdellmaa.ib Go.Proofs.Ytbbgeccbdellmaa.lg
set_option maxRecDepth 100000

theorem lnO_slice {w : World} {B : Nat} {v : Value} {L : Ln} (h : LnO w B v L) : ∃ X c, v = .agg #[.int .u64 (L.ep : Int), .int .i64 L.bf, .bool L.ls, .slice X L.gs.length c] ∧ OGd w B (.slice X L.gs.length c) L.gs := by
  obtain ⟨u, rfl, ho⟩ := h
  obtain ⟨X, c, rfl, -⟩ := OGd.viewL ho
  exact ⟨X, c, rfl, ho⟩
/-- Where a call's line is stored whole in the result. -/
theorem put_fin {w W2 W : World} {g : Nat} {L : Ln} {t : TypeId} {u : Value} {z0 z1 z2 z3 : Value} (hr : Blk W g t #[z0, z1, z2, z3]) (hb : Below w.heap.size w W2) (hb2 : Below W2.heap.size W2 W) (hl : g < W2.heap.size)
    (hw : w.heap.size ≤ g) (ho : OGd W W2.heap.size u L.gs) :
    Blk (lnP W g (.int .u64 (L.ep : Int)) (.int .i64 L.bf) (.bool L.ls) u) g t #[.int .u64 (L.ep : Int), .int .i64 L.bf, .bool L.ls, u] ∧
    OGd (lnP W g (.int .u64 (L.ep : Int)) (.int .i64 L.bf) (.bool L.ls) u) w.heap.size u L.gs ∧ Below w.heap.size w (lnP W g (.int .u64 (L.ep : Int)) (.int .i64 L.bf) (.bool L.ls) u) := by
  refine ⟨lnP_blk hr _ _ _ _, ?_, ?_⟩
  · refine ogd_low (ogd_keep ho fun j hj => ?_) hb.size
    rw [lnP_oth _ _ _ _ _ _ (by omega)]
  · exact lnP_below (below_step hb hb2) hw _ _ _ _

set_option maxHeartbeats 1600000 in
theorem rmerge_any (v u : Value) (L M : Ln) (w : World) (hv : LnL w v L) (hu : LnL w u M) (hz : szL L) (hy : szL M) :
    Calls Try.prog 16 #[v, u] w (endLn (lMerge L M) w) := by
  obtain ⟨A, c, rfl, hA⟩ := hv
  obtain ⟨B, d, rfl, hB⟩ := hu
  obtain ⟨hx, hy2, hr, hb⟩ := three_new w (lnV L (.slice A L.gs.length c)) (lnV M (.slice B M.gs.length d)) lnZ 25 25 25
  unfold lnV lnZ at hx hy2 hr hb
  obtain ⟨W2, hW2⟩ : ∃ z, ((w.alloc (.cells #[.int .u64 (L.ep : Int), .int .i64 L.bf, .bool L.ls, .slice A L.gs.length c] 25)).alloc (.cells #[.int .u64 (M.ep : Int), .int .i64 M.bf, .bool M.ls, .slice B M.gs.length d] 25)).alloc (.cells #[.int .u64 0, .int .i64 0, .bool false, .slice none 0 0] 25) = z := ⟨_, rfl⟩
  rw [hW2] at hx hy2 hr hb
  have HLa : Hid (LnL W2 (.agg #[.int .u64 (L.ep : Int), .int .i64 L.bf, .bool L.ls, .slice A L.gs.length c]) L) := ⟨A, c, rfl, hA.below hb⟩
  have HLb : Hid (LnL W2 (.agg #[.int .u64 (M.ep : Int), .int .i64 M.bf, .bool M.ls, .slice B M.gs.length d]) M) := ⟨B, d, rfl, hB.below hb⟩
  have HB := Lib.hid hb
  have HX := Lib.hid hx
  have HY := Lib.hid hy2
  have HR := Lib.hid hr
  have HZ := Lib.hid hz
  have HZ2 := Lib.hid hy
  obtain ⟨x0, x1, x2, x3⟩ := blk_ln hx
  obtain ⟨y0, y1, y2, y3⟩ := blk_ln hy2
  have hlx := hx.lt
  have hly := hy2.lt
  go_enter Try.func16, Try.ntmps16
  go_upto_region 1 with fail
  try rw [hW2]
  clear hW2 hA hB hb hx hy2 hr hz hy
  go_wp2_with fail
  refine (rfur_any _ _ M L W2 HLb.out.at HLa.out.at).mono ?_
  rintro e W3 ⟨rfl, hb3⟩
  have HB3 := Lib.hid (below_step HB.out hb3)
  have HLa3 := Lib.hid (HLa.out.below hb3)
  have HLb3 := Lib.hid (HLb.out.below hb3)
  have HX3 := Lib.hid (HX.out.below hb3)
  have HY3 := Lib.hid (HY.out.below hb3)
  have HR3 := Lib.hid (HR.out.below hb3)
  clear hb3 x0 x1 x2 x3 y0 y1 y2 y3 hlx hly HX HY HR HLa HLb HB
  obtain ⟨x0, x1, x2, x3⟩ := blk_ln HX3.out
  obtain ⟨y0, y1, y2, y3⟩ := blk_ln HY3.out
  have hlx := HX3.out.lt
  have hly := HY3.out.lt
  cases hf : fur M L
  · have HM := Lib.hid (merge_no hf)
    clear hf
    go_wp2_with fail
    refine (rown_any _ L W3 HLa3.out HZ.out).mono ?_
    rintro e W4 ⟨v4, rfl, hv4, hb4⟩
    obtain ⟨X, c4, rfl, ho⟩ := lnO_slice hv4
    have HO := Lib.hid ho
    have HB4 := Lib.hid hb4
    have HR4 := Lib.hid (HR3.out.below hb4)
    clear hv4 ho hb4
    have f0 := HR4.out.frozen 0
    have f1 := HR4.out.frozen 1
    have f2 := HR4.out.frozen 2
    have f3 := HR4.out.frozen 3
    obtain ⟨r0, r1, r2, r3⟩ := blk_ln HR4.out
    have hlr := HR4.out.lt
    go_wp2_with fail
    have hf := put_fin (L := L) HR4.out HB3.out HB4.out HR3.out.lt (by omega) HO.out
    show bodyPost _ _ _ _ _ (lnP W4 (w.heap.size + 2) (.int .u64 (L.ep : Int)) (.int .i64 L.bf) (.bool L.ls) (.slice X L.gs.length c4))
    obtain ⟨h1, h2, h3⟩ := hf
    generalize lnP W4 (w.heap.size + 2) (.int .u64 (L.ep : Int)) (.int .i64 L.bf) (.bool L.ls) (.slice X L.gs.length c4) = WF at *
    obtain ⟨q0, q1, q2, q3⟩ := blk_ln h1
    refine bodyPost_ret (v := .agg #[.int .u64 (L.ep : Int), .int .i64 L.bf, .bool L.ls, .slice X L.gs.length c4]) (by simp [results, Try.results16, go_sem, q0, q1, q2, q3]) rfl ?_
    rw [HM.out]
    exact ⟨_, rfl, ⟨_, rfl, h2⟩, h3⟩
  · have HM := Lib.hid (merge_yes hf)
    clear hf
    go_wp2_with fail
    refine (rown_any _ M W3 HLb3.out HZ2.out).mono ?_
    rintro e W4 ⟨v4, rfl, hv4, hb4⟩
    obtain ⟨X, c4, rfl, ho⟩ := lnO_slice hv4
    have HO := Lib.hid ho
    have HB4 := Lib.hid hb4
    have HR4 := Lib.hid (HR3.out.below hb4)
    clear hv4 ho hb4
    have f0 := HR4.out.frozen 0
    have f1 := HR4.out.frozen 1
    have f2 := HR4.out.frozen 2
    have f3 := HR4.out.frozen 3
    obtain ⟨r0, r1, r2, r3⟩ := blk_ln HR4.out
    have hlr := HR4.out.lt
    go_wp2_with fail
    have hf := put_fin (L := M) HR4.out HB3.out HB4.out HR3.out.lt (by omega) HO.out
    show bodyPost _ _ _ _ _ (lnP W4 (w.heap.size + 2) (.int .u64 (M.ep : Int)) (.int .i64 M.bf) (.bool M.ls) (.slice X M.gs.length c4))
    obtain ⟨h1, h2, h3⟩ := hf
    generalize lnP W4 (w.heap.size + 2) (.int .u64 (M.ep : Int)) (.int .i64 M.bf) (.bool M.ls) (.slice X M.gs.length c4) = WF at *
    obtain ⟨q0, q1, q2, q3⟩ := blk_ln h1
    refine bodyPost_ret (v := .agg #[.int .u64 (M.ep : Int), .int .i64 M.bf, .bool M.ls, .slice X M.gs.length c4]) (by simp [results, Try.results16, go_sem, q0, q1, q2, q3]) rfl ?_
    rw [HM.out]
    exact ⟨_, rfl, ⟨_, rfl, h2⟩, h3⟩
end Go.Proofs.Ytbbgeccbdellmaa.ln

/- The program's answer: which of two lines. -/
namespace Go.Proofs.Ytbbgeccbdellmaa.ln
open Go Go.RowKit Go.Sort Go.Proofs.Ytbbgeccbdellmaa.ib Go.Proofs.Ytbbgeccbdellmaa.lg
set_option maxRecDepth 100000

/-- Where a copy of a line ends: its list stored in the box gx, this one whole in the result gr. -/
theorem mrg_fin {w W2 W : World} {gx gr : Nat} {X L : Ln} {t : TypeId} {u0 u : Value} {z0 z1 z2 z3 : Value} (hx : Blk W gx t (lnV X u0)) (hr : Blk W gr t #[z0, z1, z2, z3]) (hb : Below w.heap.size w W2) (hb2 : Below W2.heap.size W2 W) (hl : gx < gr) (hl2 : gr < W2.heap.size)
    (hw : w.heap.size = gx) (ho : OGd W W2.heap.size u L.gs) :
    Blk (lnP (W.setCell ⟨gx, 3, none⟩ u) gr (.int .u64 (L.ep : Int)) (.int .i64 L.bf) (.bool L.ls) u) gr t #[.int .u64 (L.ep : Int), .int .i64 L.bf, .bool L.ls, u] ∧
    OGd (lnP (W.setCell ⟨gx, 3, none⟩ u) gr (.int .u64 (L.ep : Int)) (.int .i64 L.bf) (.bool L.ls) u) w.heap.size u L.gs ∧ Below w.heap.size w (lnP (W.setCell ⟨gx, 3, none⟩ u) gr (.int .u64 (L.ep : Int)) (.int .i64 L.bf) (.bool L.ls) u) := by
  refine ⟨lnP_blk (hr.of_block (set_oth _ _ _ _ _ (by omega))) _ _ _ _, ?_, ?_⟩
  · refine ogd_low (ogd_keep ho fun j hj => ?_) hb.size
    rw [lnP_oth _ _ _ _ _ _ (by omega), set_oth _ _ _ _ _ (by omega)]
  · subst hw
    exact lnP_below ((below_step hb hb2).setCell (Nat.le_refl _) _) (by omega) _ _ _ _

set_option maxHeartbeats 1600000 in
theorem merge_any (v u : Value) (L M : Ln) (w : World) (hv : LnL w v L) (hu : LnL w u M) (hz : szL L) (hy : szL M) :
    Calls Try.prog 15 #[v, u] w (endLn (lMerge L M) w) := by
  obtain ⟨A, c, rfl, hA⟩ := hv
  obtain ⟨B, d, rfl, hB⟩ := hu
  obtain ⟨hx, hy2, hr, hb⟩ := three_new w (lnV L (.slice A L.gs.length c)) (lnV M (.slice B M.gs.length d)) lnZ 25 25 25
  unfold lnV lnZ at hx hy2 hr hb
  obtain ⟨W2, hW2⟩ : ∃ z, ((w.alloc (.cells #[.int .u64 (L.ep : Int), .int .i64 L.bf, .bool L.ls, .slice A L.gs.length c] 25)).alloc (.cells #[.int .u64 (M.ep : Int), .int .i64 M.bf, .bool M.ls, .slice B M.gs.length d] 25)).alloc (.cells #[.int .u64 0, .int .i64 0, .bool false, .slice none 0 0] 25) = z := ⟨_, rfl⟩
  rw [hW2] at hx hy2 hr hb
  have HGA : Hid (GdL W2 A L.gs c) := hA.below hb
  have HGB : Hid (GdL W2 B M.gs d) := hB.below hb
  have HLa : Hid (LnAt W2 (.agg #[.int .u64 (L.ep : Int), .int .i64 L.bf, .bool L.ls, .slice A L.gs.length c]) L) := ⟨A, c, rfl, HGA.out.gds⟩
  have HLb : Hid (LnAt W2 (.agg #[.int .u64 (M.ep : Int), .int .i64 M.bf, .bool M.ls, .slice B M.gs.length d]) M) := ⟨B, d, rfl, HGB.out.gds⟩
  have HB := Lib.hid hb
  have HX := Lib.hid hx
  have HY := Lib.hid hy2
  have HR := Lib.hid hr
  have HZ := Lib.hid hz
  have HZ2 := Lib.hid hy
  obtain ⟨x0, x1, x2, x3⟩ := blk_ln hx
  obtain ⟨y0, y1, y2, y3⟩ := blk_ln hy2
  have hlx := hx.lt
  have hly := hy2.lt
  go_enter Try.func15, Try.ntmps15
  go_upto_region 1 with fail
  try rw [hW2]
  have HBw := Lib.hid hB
  clear hW2 hA hB hb hx hy2 hr hz hy
  go_wp2_with fail
  refine (further_any _ _ M L W2 HLb.out HLa.out HZ2.out.int HZ.out.int).mono ?_
  rintro e W3 ⟨rfl, hb3⟩
  have HB3 := Lib.hid (below_step HB.out hb3)
  have HGA3 := Lib.hid (HGA.out.below hb3)
  have HGB3 := Lib.hid (HGB.out.below hb3)
  have HX3 := Lib.hid (HX.out.below hb3)
  have HY3 := Lib.hid (HY.out.below hb3)
  have HR3 := Lib.hid (HR.out.below hb3)
  clear hb3 x0 x1 x2 x3 y0 y1 y2 y3 hlx hly HX HY HR HLa HLb HB HGA HGB
  obtain ⟨gx, hgx⟩ : ∃ g, w.heap.size = g := ⟨_, rfl⟩
  have HG := Lib.hid hgx
  rw [hgx] at HX3 HY3 HR3
  try rw [hgx]
  clear hgx
  cases hf : fur M L
  · have HM := Lib.hid (merge_no hf)
    clear hf
    have x3 := (blk_ln HX3.out).2.2.2
    have hlx := HX3.out.lt
    go_wp2_with fail
    refine (clone_any A c L.gs W3 HGA3.out HZ.out).mono ?_
    rintro e W4 ⟨u4, rfl, ho4, hb4⟩
    obtain ⟨X, c4, rfl, -⟩ := OGd.viewL ho4
    have HO := Lib.hid ho4
    have HB4 := Lib.hid hb4
    have HX4 := Lib.hid (HX3.out.below hb4)
    have HR4 := Lib.hid (HR3.out.below hb4)
    clear ho4 hb4 x3 hlx
    have hlx := HX4.out.lt
    have hlr := HR4.out.lt
    obtain ⟨x0, x1, x2, x3⟩ := blk_ln HX4.out
    obtain ⟨r0, r1, r2, r3⟩ := blk_ln HR4.out
    have fx := HX4.out.frozen 3
    have f0 := HR4.out.frozen 0
    have f1 := HR4.out.frozen 1
    have f2 := HR4.out.frozen 2
    have f3 := HR4.out.frozen 3
    go_wp2_with fail
    have hf := mrg_fin (X := L) (L := L) HX4.out HR4.out HB3.out HB4.out (by omega) HR3.out.lt HG.out HO.out
    show bodyPost _ _ _ _ _ (lnP (W4.setCell ⟨gx, 3, none⟩ (.slice X L.gs.length c4)) (gx + 2) (.int .u64 (L.ep : Int)) (.int .i64 L.bf) (.bool L.ls) (.slice X L.gs.length c4))
    obtain ⟨h1, h2, h3⟩ := hf
    generalize lnP (W4.setCell ⟨gx, 3, none⟩ (.slice X L.gs.length c4)) (gx + 2) (.int .u64 (L.ep : Int)) (.int .i64 L.bf) (.bool L.ls) (.slice X L.gs.length c4) = WF at *
    obtain ⟨q0, q1, q2, q3⟩ := blk_ln h1
    refine bodyPost_ret (v := .agg #[.int .u64 (L.ep : Int), .int .i64 L.bf, .bool L.ls, .slice X L.gs.length c4]) (by simp [results, Try.results15, go_sem, q0, q1, q2, q3]) rfl ?_
    rw [HM.out]
    exact ⟨_, rfl, ⟨_, rfl, h2⟩, h3⟩
  · have HM := Lib.hid (merge_yes hf)
    clear hf
    obtain ⟨x0, x1, x2, x3⟩ := blk_ln HX3.out
    obtain ⟨y0, y1, y2, y3⟩ := blk_ln HY3.out
    have hlx := HX3.out.lt
    have hly := HY3.out.lt
    have f0 := HX3.out.frozen 0
    have f1 := HX3.out.frozen 1
    have f2 := HX3.out.frozen 2
    have f3 := HX3.out.frozen 3
    go_upto_region 3 with fail
    have hk := lnP_blk HX3.out (.int .u64 (M.ep : Int)) (.int .i64 M.bf) (.bool M.ls) (.slice B M.gs.length d)
    have hr4 : Blk (lnP W3 gx (.int .u64 (M.ep : Int)) (.int .i64 M.bf) (.bool M.ls) (.slice B M.gs.length d)) (gx + 2) 25 #[.int .u64 0, .int .i64 0, .bool false, .slice none 0 0] := HR3.out.of_block (lnP_oth _ _ _ _ _ _ (by omega))
    have hg4 : Below gx w (lnP W3 gx (.int .u64 (M.ep : Int)) (.int .i64 M.bf) (.bool M.ls) (.slice B M.gs.length d)) := by
      have h := HB3.out
      rw [HG.out] at h
      exact lnP_below h (Nat.le_refl _) _ _ _ _
    have hgb : GdL (lnP W3 gx (.int .u64 (M.ep : Int)) (.int .i64 M.bf) (.bool M.ls) (.slice B M.gs.length d)) B M.gs d := by
      have h := HBw.out
      have h2 : Below w.heap.size w (lnP W3 gx (.int .u64 (M.ep : Int)) (.int .i64 M.bf) (.bool M.ls) (.slice B M.gs.length d)) := by
        rw [HG.out]
        exact hg4
      exact h.below h2
    show Code.wp _ _ _ _ (lnP W3 gx (.int .u64 (M.ep : Int)) (.int .i64 M.bf) (.bool M.ls) (.slice B M.gs.length d))
    obtain ⟨W4, hW4⟩ : ∃ z, lnP W3 gx (.int .u64 (M.ep : Int)) (.int .i64 M.bf) (.bool M.ls) (.slice B M.gs.length d) = z := ⟨_, rfl⟩
    rw [hW4] at hk hr4 hg4 hgb ⊢
    clear hW4 x0 x1 x2 x3 y0 y1 y2 y3 hlx hly f0 f1 f2 f3 HX3 HY3 HR3 HB3 HGA3 HGB3
    have HX3 := Lib.hid hk
    have HR3 := Lib.hid hr4
    have HB3 : Hid (Below w.heap.size w W4) := by unfold Hid; rw [HG.out]; exact hg4
    have HGB3 := Lib.hid hgb
    clear hk hr4 hg4 hgb
    generalize W4 = W3 at *
    have x3 := (blk_ln HX3.out).2.2.2
    have hlx := HX3.out.lt
    go_wp2_with fail
    refine (clone_any B d M.gs W3 HGB3.out HZ2.out).mono ?_
    rintro e W4 ⟨u4, rfl, ho4, hb4⟩
    obtain ⟨X, c4, rfl, -⟩ := OGd.viewL ho4
    have HO := Lib.hid ho4
    have HB4 := Lib.hid hb4
    have HX4 := Lib.hid (HX3.out.below hb4)
    have HR4 := Lib.hid (HR3.out.below hb4)
    clear ho4 hb4 x3 hlx
    have hlx := HX4.out.lt
    have hlr := HR4.out.lt
    obtain ⟨x0, x1, x2, x3⟩ := blk_ln HX4.out
    obtain ⟨r0, r1, r2, r3⟩ := blk_ln HR4.out
    have fx := HX4.out.frozen 3
    have f0 := HR4.out.frozen 0
    have f1 := HR4.out.frozen 1
    have f2 := HR4.out.frozen 2
    have f3 := HR4.out.frozen 3
    go_wp2_with fail
    have hf := mrg_fin (X := M) (L := M) HX4.out HR4.out HB3.out HB4.out (by omega) HR3.out.lt HG.out HO.out
    show bodyPost _ _ _ _ _ (lnP (W4.setCell ⟨gx, 3, none⟩ (.slice X M.gs.length c4)) (gx + 2) (.int .u64 (M.ep : Int)) (.int .i64 M.bf) (.bool M.ls) (.slice X M.gs.length c4))
    obtain ⟨h1, h2, h3⟩ := hf
    generalize lnP (W4.setCell ⟨gx, 3, none⟩ (.slice X M.gs.length c4)) (gx + 2) (.int .u64 (M.ep : Int)) (.int .i64 M.bf) (.bool M.ls) (.slice X M.gs.length c4) = WF at *
    obtain ⟨q0, q1, q2, q3⟩ := blk_ln h1
    refine bodyPost_ret (v := .agg #[.int .u64 (M.ep : Int), .int .i64 M.bf, .bool M.ls, .slice X M.gs.length c4]) (by simp [results, Try.results15, go_sem, q0, q1, q2, q3]) rfl ?_
    rw [HM.out]
    exact ⟨_, rfl, ⟨_, rfl, h2⟩, h3⟩
end Go.Proofs.Ytbbgeccbdellmaa.ln

/- The document's answer: what is common. -/
namespace Go.Proofs.Ytbbgeccbdellmaa.ln
open Go Go.RowKit Go.Sort Go.Proofs.Ytbbgeccbdellmaa.ib Go.Proofs.Ytbbgeccbdellmaa.lg
set_option maxRecDepth 100000

def CoRel (l m : List Gd) (w : World) (i : Value) (wr : World) : Prop :=
  ∃ k : Nat, k ≤ l.length ∧ k ≤ m.length ∧ i = .int .i64 (k : Int) ∧ (∀ j, j < k → l.getD j (0, 0) = m.getD j (0, 0)) ∧ Below w.heap.size w wr
theorem getD_in {l : List Gd} {k : Nat} (h : k < l.length) : l.getD k (0, 0) = l[k] := by simp [List.getD, h]

set_option maxHeartbeats 3200000 in
theorem rcommon_any (A : Option Addr) (c : Nat) (l : List Gd) (v : Value) (L : Ln) (w : World) (hA : GdAt w A l) (hv : LnAt w v L) (hl : l.length ≤ 9223372036854775807) (hm : L.gs.length ≤ 9223372036854775807) :
    Calls Try.prog 18 #[.slice A l.length c, v] w (endI ((common l L.gs : Nat) : Int) w) := by
  obtain ⟨B, d, rfl, hB⟩ := hv
  obtain ⟨W1, hW1⟩ : ∃ z, w.alloc (.cells #[.int .u64 (L.ep : Int), .int .i64 L.bf, .bool L.ls, .slice B L.gs.length d] 25) = z := ⟨_, rfl⟩
  have hx1 : Blk W1 w.heap.size 25 #[.int .u64 (L.ep : Int), .int .i64 L.bf, .bool L.ls, .slice B L.gs.length d] := by rw [← hW1]; exact Blk.new _ _ _
  have hb1 : Below w.heap.size w W1 := by rw [← hW1]; exact (Below.refl _ w).alloc (Nat.le_refl _) _
  have HA := Lib.hid (hA.below hb1)
  have HB := Lib.hid (hB.below hb1)
  have HB1 := Lib.hid hb1
  clear hA hB hb1
  generalize (L.ep : Int) = e1 at *
  generalize L.bf = b1 at *
  generalize L.ls = s1 at *
  generalize L.gs = m at *
  obtain ⟨r, hr⟩ : ∃ r, common l m = r := ⟨_, rfl⟩
  have HC : Hid (∀ k, k ≤ l.length → k ≤ m.length → (∀ i, i < k → l.getD i (0, 0) = m.getD i (0, 0)) → (k = l.length ∨ k = m.length ∨ l.getD k (0, 0) ≠ m.getD k (0, 0)) → r = k) := fun k h1 h2 h3 h4 => by rw [← hr]; exact common_eq l m k h1 h2 h3 h4
  rw [hr]
  clear hr
  obtain ⟨n1, hn1⟩ : ∃ k, l.length = k := ⟨_, rfl⟩
  obtain ⟨n2, hn2⟩ : ∃ k, m.length = k := ⟨_, rfl⟩
  have HN1 := Lib.hid hn1
  have HN2 := Lib.hid hn2
  rw [hn1] at hl ⊢
  rw [hn2] at hm hx1 hW1 ⊢
  clear hn1 hn2
  go_enter Try.func18, Try.ntmps18
  go_upto_region 1 with fail
  try rw [hW1]
  clear hW1
  obtain ⟨gx, hgx⟩ : ∃ g, w.heap.size = g := ⟨_, rfl⟩
  rw [hgx] at hx1
  try rw [hgx]
  clear hgx
  have HX := Lib.hid hx1
  clear hx1
  go_wp2_with fail
  go_loopw [5] (fun i wr => CoRel l m W1 i wr) (fun i _ => n1 - (intOf i).toNat)
  case atStart => exact ⟨0, Nat.zero_le _, Nat.zero_le _, rfl, fun j hj => absurd hj (by omega), Below.refl _ _⟩
  case round =>
    obtain ⟨k, hk1, hk2, rfl, hp, hB⟩ := hrel
    have HP := Lib.hid hp
    have HBW := Lib.hid hB
    rw [HN1.out] at hk1
    rw [HN2.out] at hk2
    clear hp hB
    have q3 := (HX.out.below HBW.out).cell 3
    simp only [List.getElem?_toArray, List.getElem?_cons_zero, List.getElem?_cons_succ] at q3
    have hlg := (HX.out.below HBW.out).lt
    by_cases h1 : k < n1
    · have h1i : (k : Int) < (n1 : Int) := by omega
      by_cases h2 : k < n2
      · have h2i : (k : Int) < (n2 : Int) := by omega
        have hkl : k < l.length := by rw [HN1.out]; exact h1
        have hkm : k < m.length := by rw [HN2.out]; exact h2
        obtain ⟨b1, o1, rfl, l1, e0, e1⟩ := HA.out.below HBW.out k hkl
        obtain ⟨b2, o2, rfl, l2, f0, f1⟩ := HB.out.below HBW.out k hkm
        have HNE : Hid (l[k] ≠ m[k] → r = k) := fun h => HC.out k (by omega) (by omega) HP.out (.inr (.inr (by rw [getD_in hkl, getD_in hkm]; exact h)))
        have HTS : Hid (l[k] = m[k] → ∀ j, j < k + 1 → l.getD j (0, 0) = m.getD j (0, 0)) := fun e j hj => by
          by_cases hjk : j = k
          · rw [hjk, getD_in hkl, getD_in hkm]; exact e
          · exact HP.out j (by omega)
        obtain ⟨x, hx⟩ : ∃ x, l[k] = x := ⟨_, rfl⟩
        obtain ⟨y, hy⟩ : ∃ y, m[k] = y := ⟨_, rfl⟩
        rw [hx] at e0 e1 HNE HTS
        rw [hy] at f0 f1 HNE HTS
        clear hx hy
        by_cases he : x = y
        · have HS := Lib.hid (HTS.out he)
          subst he
          clear HTS HNE
          generalize (x.1 : Int) = x1 at *
          generalize (x.2 : Int) = x2 at *
          go_wp2_with fail
          go_quiet (fail)
          have HB2 := Lib.hid (below_drewN HBW.out nq)
          go_wp2_with fail
          go_roundw
          case rel => exact ⟨k + 1, by rw [HN1.out]; omega, by rw [HN2.out]; omega, by go_num, HS.out, HB2.out⟩
          case measure => simp [intOf]; omega
        · obtain rfl := HNE.out he
          have hd := gd_ne he
          clear he HTS HNE
          generalize (x.1 : Int) = x1 at *
          generalize (x.2 : Int) = x2 at *
          generalize (y.1 : Int) = y1 at *
          generalize (y.2 : Int) = y2 at *
          rcases hd with hd | ⟨rfl, hd⟩
          all_goals
            go_wp2_with fail
            go_quiet (fail)
            have HB2 := Lib.hid (below_drewN HBW.out nq)
            go_wp2_with fail
            go_ret
            exact ⟨rfl, below_step HB1.out HB2.out⟩
      · have h2i : ¬ (k : Int) < (n2 : Int) := by omega
        obtain rfl := HC.out k (by rw [HN1.out]; omega) (by rw [HN2.out]; omega) HP.out (.inr (.inl (by rw [HN2.out]; omega)))
        go_wp2_with fail
        go_quiet (fail)
        have HB2 := Lib.hid (below_drewN HBW.out nq)
        go_wp2_with fail
        go_ret
        exact ⟨rfl, below_step HB1.out HB2.out⟩
    · have h1i : ¬ (k : Int) < (n1 : Int) := by omega
      obtain rfl := HC.out k (by rw [HN1.out]; omega) (by rw [HN2.out]; omega) HP.out (.inl (by rw [HN1.out]; omega))
      go_wp2_with fail
      go_quiet (fail)
      have HB2 := Lib.hid (below_drewN HBW.out nq)
      go_wp2_with fail
      go_ret
      exact ⟨rfl, below_step HB1.out HB2.out⟩
end Go.Proofs.Ytbbgeccbdellmaa.ln

/- The program's answer: what is common. -/
namespace Go.Proofs.Ytbbgeccbdellmaa.ln
open Go Go.RowKit Go.Sort Go.Proofs.Ytbbgeccbdellmaa.ib Go.Proofs.Ytbbgeccbdellmaa.lg
set_option maxRecDepth 100000

set_option maxHeartbeats 3200000 in
theorem common_any (A : Option Addr) (c : Nat) (l : List Gd) (v : Value) (L : Ln) (w : World) (hA : GdAt w A l) (hv : LnAt w v L) (hl : l.length ≤ 9223372036854775807) (hm : L.gs.length ≤ 9223372036854775807) :
    Calls Try.prog 17 #[.slice A l.length c, v] w (endI ((common l L.gs : Nat) : Int) w) := by
  obtain ⟨B, d, rfl, hB⟩ := hv
  obtain ⟨W1, hW1⟩ : ∃ z, w.alloc (.cells #[.int .u64 (L.ep : Int), .int .i64 L.bf, .bool L.ls, .slice B L.gs.length d] 25) = z := ⟨_, rfl⟩
  have hx1 : Blk W1 w.heap.size 25 #[.int .u64 (L.ep : Int), .int .i64 L.bf, .bool L.ls, .slice B L.gs.length d] := by rw [← hW1]; exact Blk.new _ _ _
  have hb1 : Below w.heap.size w W1 := by rw [← hW1]; exact (Below.refl _ w).alloc (Nat.le_refl _) _
  have HA := Lib.hid (hA.below hb1)
  have HB := Lib.hid (hB.below hb1)
  have HB1 := Lib.hid hb1
  clear hA hB hb1
  generalize (L.ep : Int) = e1 at *
  generalize L.bf = b1 at *
  generalize L.ls = s1 at *
  generalize L.gs = m at *
  obtain ⟨r, hr⟩ : ∃ r, common l m = r := ⟨_, rfl⟩
  have HC : Hid (∀ k, k ≤ l.length → k ≤ m.length → (∀ i, i < k → l.getD i (0, 0) = m.getD i (0, 0)) → (k = l.length ∨ k = m.length ∨ l.getD k (0, 0) ≠ m.getD k (0, 0)) → r = k) := fun k h1 h2 h3 h4 => by rw [← hr]; exact common_eq l m k h1 h2 h3 h4
  rw [hr]
  clear hr
  obtain ⟨n1, hn1⟩ : ∃ k, l.length = k := ⟨_, rfl⟩
  obtain ⟨n2, hn2⟩ : ∃ k, m.length = k := ⟨_, rfl⟩
  have HN1 := Lib.hid hn1
  have HN2 := Lib.hid hn2
  rw [hn1] at hl ⊢
  rw [hn2] at hm hx1 hW1 ⊢
  clear hn1 hn2
  go_enter Try.func17, Try.ntmps17
  go_upto_region 1 with fail
  try rw [hW1]
  clear hW1
  obtain ⟨gx, hgx⟩ : ∃ g, w.heap.size = g := ⟨_, rfl⟩
  rw [hgx] at hx1
  try rw [hgx]
  clear hgx
  have HX := Lib.hid hx1
  clear hx1
  have q3 := HX.out.cell 3
  simp only [List.getElem?_toArray, List.getElem?_cons_zero, List.getElem?_cons_succ] at q3
  have hlg := HX.out.lt
  rcases (Nat.lt_or_ge n2 n1).symm with h12 | h12
  · have hmi : min (n1 : Int) (n2 : Int) = (n1 : Int) := by omega
    go_wp2_with fail
    go_loopw [6, 14] (fun _ i wr => CoRel l m W1 i wr) (fun _ i _ => n1 - (intOf i).toNat)
    case atStart => exact ⟨0, Nat.zero_le _, Nat.zero_le _, rfl, fun j hj => absurd hj (by omega), Below.refl _ _⟩
    case round =>
      obtain ⟨k, hk1, hk2, rfl, hp, hB⟩ := hrel
      have HP := Lib.hid hp
      have HBW := Lib.hid hB
      rw [HN1.out] at hk1
      rw [HN2.out] at hk2
      clear hp hB
      have q3 := (HX.out.below HBW.out).cell 3
      simp only [List.getElem?_toArray, List.getElem?_cons_zero, List.getElem?_cons_succ] at q3
      have hlg := (HX.out.below HBW.out).lt
      by_cases h1 : k < n1
      · have h1i : (k : Int) < (n1 : Int) := by omega
        have hk1' : k < n1 := by omega
        have hk2' : k < n2 := by omega
        have hkl : k < l.length := by rw [HN1.out]; exact hk1'
        have hkm : k < m.length := by rw [HN2.out]; exact hk2'
        obtain ⟨b1, o1, rfl, l1, e0, e1⟩ := HA.out.below HBW.out k hkl
        obtain ⟨b2, o2, rfl, l2, f0, f1⟩ := HB.out.below HBW.out k hkm
        have HNE : Hid (l[k] ≠ m[k] → r = k) := fun h => HC.out k (by omega) (by omega) HP.out (.inr (.inr (by rw [getD_in hkl, getD_in hkm]; exact h)))
        have HTS : Hid (l[k] = m[k] → ∀ j, j < k + 1 → l.getD j (0, 0) = m.getD j (0, 0)) := fun e j hj => by
          by_cases hjk : j = k
          · rw [hjk, getD_in hkl, getD_in hkm]; exact e
          · exact HP.out j (by omega)
        obtain ⟨x, hx⟩ : ∃ x, l[k] = x := ⟨_, rfl⟩
        obtain ⟨y, hy⟩ : ∃ y, m[k] = y := ⟨_, rfl⟩
        rw [hx] at e0 e1 HNE HTS
        rw [hy] at f0 f1 HNE HTS
        clear hx hy
        by_cases he : x = y
        · have HS := Lib.hid (HTS.out he)
          subst he
          clear HTS HNE
          generalize (x.1 : Int) = x1 at *
          generalize (x.2 : Int) = x2 at *
          go_wp2_with fail
          go_quiet (fail)
          have HB2 := Lib.hid (below_drewN HBW.out nq)
          go_wp2_with fail
          go_roundw
          case rel => exact ⟨k + 1, by rw [HN1.out]; omega, by rw [HN2.out]; omega, by go_num, HS.out, HB2.out⟩
          case measure => simp [intOf]; omega
        · obtain rfl := HNE.out he
          have hd := gd_ne he
          clear he HTS HNE
          generalize (x.1 : Int) = x1 at *
          generalize (x.2 : Int) = x2 at *
          generalize (y.1 : Int) = y1 at *
          generalize (y.2 : Int) = y2 at *
          rcases hd with hd | ⟨rfl, hd⟩
          all_goals
            go_wp2_with fail
            go_quiet (fail)
            have HB2 := Lib.hid (below_drewN HBW.out nq)
            go_wp2_with fail
            go_ret
            exact ⟨rfl, below_step HB1.out HB2.out⟩
      · have h1i : ¬ (k : Int) < (n1 : Int) := by omega
        obtain rfl : k = n1 := by omega
        obtain rfl := HC.out k (by rw [HN1.out]; omega) (by rw [HN2.out]; omega) HP.out (.inl (by rw [HN1.out]))
        go_wp2_with fail
        go_ret
        exact ⟨rfl, below_step HB1.out HBW.out⟩
  · have hmi : min (n1 : Int) (n2 : Int) = (n2 : Int) := by omega
    go_wp2_with fail
    go_loopw [6, 14] (fun _ i wr => CoRel l m W1 i wr) (fun _ i _ => n1 - (intOf i).toNat)
    case atStart => exact ⟨0, Nat.zero_le _, Nat.zero_le _, rfl, fun j hj => absurd hj (by omega), Below.refl _ _⟩
    case round =>
      obtain ⟨k, hk1, hk2, rfl, hp, hB⟩ := hrel
      have HP := Lib.hid hp
      have HBW := Lib.hid hB
      rw [HN1.out] at hk1
      rw [HN2.out] at hk2
      clear hp hB
      have q3 := (HX.out.below HBW.out).cell 3
      simp only [List.getElem?_toArray, List.getElem?_cons_zero, List.getElem?_cons_succ] at q3
      have hlg := (HX.out.below HBW.out).lt
      by_cases h1 : k < n2
      · have h1i : (k : Int) < (n2 : Int) := by omega
        have hk1' : k < n1 := by omega
        have hk2' : k < n2 := by omega
        have hkl : k < l.length := by rw [HN1.out]; exact hk1'
        have hkm : k < m.length := by rw [HN2.out]; exact hk2'
        obtain ⟨b1, o1, rfl, l1, e0, e1⟩ := HA.out.below HBW.out k hkl
        obtain ⟨b2, o2, rfl, l2, f0, f1⟩ := HB.out.below HBW.out k hkm
        have HNE : Hid (l[k] ≠ m[k] → r = k) := fun h => HC.out k (by omega) (by omega) HP.out (.inr (.inr (by rw [getD_in hkl, getD_in hkm]; exact h)))
        have HTS : Hid (l[k] = m[k] → ∀ j, j < k + 1 → l.getD j (0, 0) = m.getD j (0, 0)) := fun e j hj => by
          by_cases hjk : j = k
          · rw [hjk, getD_in hkl, getD_in hkm]; exact e
          · exact HP.out j (by omega)
        obtain ⟨x, hx⟩ : ∃ x, l[k] = x := ⟨_, rfl⟩
        obtain ⟨y, hy⟩ : ∃ y, m[k] = y := ⟨_, rfl⟩
        rw [hx] at e0 e1 HNE HTS
        rw [hy] at f0 f1 HNE HTS
        clear hx hy
        by_cases he : x = y
        · have HS := Lib.hid (HTS.out he)
          subst he
          clear HTS HNE
          generalize (x.1 : Int) = x1 at *
          generalize (x.2 : Int) = x2 at *
          go_wp2_with fail
          go_quiet (fail)
          have HB2 := Lib.hid (below_drewN HBW.out nq)
          go_wp2_with fail
          go_roundw
          case rel => exact ⟨k + 1, by rw [HN1.out]; omega, by rw [HN2.out]; omega, by go_num, HS.out, HB2.out⟩
          case measure => simp [intOf]; omega
        · obtain rfl := HNE.out he
          have hd := gd_ne he
          clear he HTS HNE
          generalize (x.1 : Int) = x1 at *
          generalize (x.2 : Int) = x2 at *
          generalize (y.1 : Int) = y1 at *
          generalize (y.2 : Int) = y2 at *
          rcases hd with hd | ⟨rfl, hd⟩
          all_goals
            go_wp2_with fail
            go_quiet (fail)
            have HB2 := Lib.hid (below_drewN HBW.out nq)
            go_wp2_with fail
            go_ret
            exact ⟨rfl, below_step HB1.out HB2.out⟩
      · have h1i : ¬ (k : Int) < (n2 : Int) := by omega
        obtain rfl : k = n2 := by omega
        obtain rfl := HC.out k (by rw [HN1.out]; omega) (by rw [HN2.out]; omega) HP.out (.inr (.inl (by rw [HN2.out])))
        go_wp2_with fail
        go_ret
        exact ⟨rfl, below_step HB1.out HBW.out⟩
end Go.Proofs.Ytbbgeccbdellmaa.ln

/- The document's answer: what stays. -/
namespace Go.Proofs.Ytbbgeccbdellmaa.ln
open Go Go.RowKit Go.Sort Go.Proofs.Ytbbgeccbdellmaa.ib Go.Proofs.Ytbbgeccbdellmaa.lg
set_option maxRecDepth 100000

def StRel (l : List Gd) (e s : Nat) (w : World) (i : Value) (wr : World) : Prop :=
  ∃ k : Nat, s ≤ k ∧ k ≤ l.length ∧ i = .int .i64 (k : Int) ∧ (∀ j, s ≤ j → j < k → e ≤ (l.getD j (0, 0)).1) ∧ Below w.heap.size w wr

set_option maxHeartbeats 3200000 in
theorem rstays_any (A : Option Addr) (c : Nat) (l : List Gd) (v : Value) (L : Ln) (w : World) (hA : GdAt w A l) (hv : LnAt w v L) (hl : l.length ≤ 9223372036854775807) (hm : L.gs.length ≤ 9223372036854775807) :
    Calls Try.prog 20 #[.slice A l.length c, v] w (endI ((stays l L : Nat) : Int) w) := by
  have HCOM : Hid (∀ W, Below w.heap.size w W → Calls Try.prog 18 #[.slice A l.length c, v] W (endI ((common l L.gs : Nat) : Int) W)) := fun W hb => rcommon_any A c l v L W (hA.below hb) (hv.below hb) hl hm
  obtain ⟨B, d, rfl, hB⟩ := hv
  have HX1 : Hid (Blk (w.alloc (.cells #[.int .u64 (L.ep : Int), .int .i64 L.bf, .bool L.ls, .slice B L.gs.length d] 25)) w.heap.size 25 #[.int .u64 (L.ep : Int), .int .i64 L.bf, .bool L.ls, .slice B L.gs.length d]) := Blk.new _ _ _
  have HB0 : Hid (Below w.heap.size w (w.alloc (.cells #[.int .u64 (L.ep : Int), .int .i64 L.bf, .bool L.ls, .slice B L.gs.length d] 25))) := (Below.refl _ w).alloc (Nat.le_refl _) _
  have HA := Lib.hid hA
  have HLE : Hid (common l L.gs ≤ l.length ∧ common l L.gs ≤ L.gs.length) := common_le l L.gs
  have HLS : Hid (common l L.gs < L.gs.length → stays l L = common l L.gs) := fun h => stays_less h
  have HST : Hid (common l L.gs = L.gs.length → ∀ n, common l L.gs ≤ n → n ≤ l.length → (∀ i, common l L.gs ≤ i → i < n → L.ep ≤ (l.getD i (0, 0)).1) → (n = l.length ∨ (l.getD n (0, 0)).1 < L.ep) → stays l L = n) := fun hc n h1 h2 h3 h4 => stays_eq hc h1 h2 h3 h4
  clear hA hB
  obtain ⟨s, hs⟩ : ∃ s, common l L.gs = s := ⟨_, rfl⟩
  obtain ⟨r, hr⟩ : ∃ r, stays l L = r := ⟨_, rfl⟩
  rw [hs] at HCOM HLE HLS HST
  rw [hr] at HLS HST ⊢
  clear hs hr
  generalize L.ep = e1 at *
  generalize L.bf = b1 at *
  generalize L.ls = s1 at *
  generalize L.gs.length = n2 at *
  obtain ⟨n1, hn1⟩ : ∃ k, l.length = k := ⟨_, rfl⟩
  have HN1 := Lib.hid hn1
  rw [hn1] at hl HCOM HLE HST ⊢
  clear hn1
  go_enter Try.func20, Try.ntmps20
  go_wp2_with fail
  refine (HCOM.out _ HB0.out).mono ?_
  rintro e W2 ⟨rfl, hb2⟩
  have HX := Lib.hid (HX1.out.below hb2)
  have HB2 := Lib.hid (below_step HB0.out hb2)
  clear hb2 HX1 HB0 HCOM
  obtain ⟨gx, hgx⟩ : ∃ g, w.heap.size = g := ⟨_, rfl⟩
  rw [hgx] at HX
  try rw [hgx]
  clear hgx
  have q3 := HX.out.cell 3
  simp only [List.getElem?_toArray, List.getElem?_cons_zero, List.getElem?_cons_succ] at q3
  have hlg := HX.out.lt
  by_cases hc : s = n2
  · have HST2 := Lib.hid (HST.out hc)
    clear HST HLS
    subst hc
    have hci : ((s : Int) == (s : Int)) = true := by simp
    go_wp2_with fail
    clear q3
    go_loopw [5] (fun i wr => StRel l e1 s W2 i wr) (fun i _ => n1 - (intOf i).toNat)
    case atStart => exact ⟨s, Nat.le_refl _, by rw [HN1.out]; exact HLE.out.1, rfl, fun j h1 h2 => absurd h1 (by omega), Below.refl _ _⟩
    case round =>
      obtain ⟨k, hk0, hk1, rfl, hp, hB⟩ := hrel
      have HP := Lib.hid hp
      have HBW := Lib.hid hB
      rw [HN1.out] at hk1
      clear hp hB
      have q0 := (HX.out.below HBW.out).cell 0
      simp only [List.getElem?_toArray, List.getElem?_cons_zero, List.getElem?_cons_succ] at q0
      have hlg := (HX.out.below HBW.out).lt
      by_cases h1 : k < n1
      · have h1i : (k : Int) < (n1 : Int) := by omega
        have hkl : k < l.length := by rw [HN1.out]; exact h1
        obtain ⟨b1, o1, rfl, l1, f0, f1⟩ := HA.out.below (below_step HB2.out HBW.out) k hkl
        have HGT : Hid (l.getD k (0, 0) = l[k]) := getD_in hkl
        obtain ⟨x, hx⟩ : ∃ x, l[k] = x := ⟨_, rfl⟩
        rw [hx] at f0 f1 HGT
        clear hx
        by_cases he : e1 ≤ x.1
        · have hei : (e1 : Int) ≤ (x.1 : Int) := by omega
          have HS : Hid (∀ j, s ≤ j → j < k + 1 → e1 ≤ (l.getD j (0, 0)).1) := fun j h1 h2 => by
            by_cases hjk : j = k
            · rw [hjk, HGT.out]; exact he
            · exact HP.out j h1 (by omega)
          clear he
          generalize (x.1 : Int) = x1 at *
          generalize (x.2 : Int) = x2 at *
          go_wp2_with fail
          go_quiet (fail)
          have HB3 := Lib.hid (below_drewN HBW.out nq)
          go_wp2_with fail
          go_roundw
          case rel => exact ⟨k + 1, by omega, by rw [HN1.out]; omega, by go_num, HS.out, HB3.out⟩
          case measure => simp [intOf]; omega
        · have hei : ¬ (e1 : Int) ≤ (x.1 : Int) := by omega
          obtain rfl := HST2.out k hk0 (by omega) HP.out (.inr (by rw [HGT.out]; omega))
          clear he
          generalize (x.1 : Int) = x1 at *
          generalize (x.2 : Int) = x2 at *
          go_wp2_with fail
          go_quiet (fail)
          have HB3 := Lib.hid (below_drewN HBW.out nq)
          go_wp2_with fail
          go_ret
          exact ⟨rfl, below_step HB2.out HB3.out⟩
      · have h1i : ¬ (k : Int) < (n1 : Int) := by omega
        obtain rfl := HST2.out k hk0 (by omega) HP.out (.inl (by omega))
        go_wp2_with fail
        go_quiet (fail)
        have HB3 := Lib.hid (below_drewN HBW.out nq)
        go_wp2_with fail
        go_ret
        exact ⟨rfl, below_step HB2.out HB3.out⟩
  · have hci : ((s : Int) == (n2 : Int)) = false := by simp; omega
    obtain rfl := HLS.out (by have := HLE.out.2; omega)
    clear HST HLS
    go_wp2_with fail
    go_ret
    exact ⟨rfl, HB2.out⟩
end Go.Proofs.Ytbbgeccbdellmaa.ln

