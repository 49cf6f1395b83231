/- LineAgain, where what comes in is of bulk at most 1048576: what stays stays again, whole; and a line that goes on beyond what is common lets nothing more stay; of all lists and lines. -/
import Derived.Test.YtbbgeccbdellmaaQ1
import Derived.Test.YtbbgeccbdellmaaQ2
import Derived.Test.YtbbgeccbdellmaaQ6
import Derived.LoopTactic
import Derived.BigQuiet
import Derived.Test.YtbbgeccbdellmaaRows
import Derived.Deep.DeepHandedRow
import Derived.ProofKit
import Derived.OpenShut
import Derived.ShutString
import Derived.SizedLaws
import Derived.ChangeOld
import Derived.Below
import Derived.SliceStrings
set_option linter.unusedVariables false
set_option linter.unusedSimpArgs false
/- A list of guids appended to one of the call's own. -/
namespace Go.Proofs.Ytbbgeccbdellmaa.ln
open Go Go.RowKit Go.Sort Go.Proofs.Ytbbgeccbdellmaa.ib Go.Proofs.Ytbbgeccbdellmaa.lg
set_option maxRecDepth 100000

theorem wpList_append_gd {w : World} {ops : Array Oper} {rest : List Oper} {o : Oper} {a : Act} {Q : Exit → Act → World → Prop} (hgd : o.guard = none) (s x : Operand)
    (ho : o.op = .call { callee := .builtin .append, args := #[s, x], argTypes := #[23, 23] })
    (B : Nat) (v : Value) (l : List Gd) (hs : a.eval s = v) (hown : OGd w B v l) (A : Option Addr) (m : List Gd) (c : Nat) (hx : a.eval x = .slice A m.length c) (hA : GdL w A m c)
    (hn : l.length + m.length ≤ 8000000) (hB : B ≤ w.heap.size)
    (h : ∀ v' w', OGd w' B v' (l ++ m) → w.grownBy w' v.ownBlock → wpList Try.prog ops Q rest (a.put o.dst v') w') : wpList Try.prog ops Q (o :: rest) a w := by
  obtain ⟨i0, hi, hz0, hz1, hz2⟩ := info_parts infoGd
  cases A with
  | none =>
    obtain ⟨h1, rfl⟩ := hA.nil rfl
    obtain rfl : m = [] := List.length_eq_zero_iff.1 h1
    refine wpList_append_own_none hgd s x 23 ho B 34 i0 2 Try.underlying23 hi v l.length (gdRow l) hs hown hx ?_
    exact h v w (by rw [List.append_nil]; exact hown) ⟨rfl, rfl, rfl, Nat.le_refl _, fun _ _ _ => rfl⟩
  | some ad =>
    refine wpList_append_own _ hgd s x 23 ho B 34 i0 (.agg #[.int .u64 0, .int .u64 0]) 2 16 Try.underlying23 hi hz0 hz1 hz2 rfl (by decide) v l.length (gdRow l) hs hown ad m.length c (gdRow m) hx (gdRow_len m) (gdAt_row hA.gds) (gdRow_ones m) (by unfold maxLen; omega) (by omega) hB ?_
    intro v' w' h2 h3 _
    exact h v' w' (OGd.app h2) h3
theorem wp_append_gd {w : World} {o : Oper} {a : Act} {K : Act → World → Prop} {Q : Exit → Act → World → Prop} (s x : Operand)
    (ho : o.op = .call { callee := .builtin .append, args := #[s, x], argTypes := #[23, 23] })
    (B : Nat) (v : Value) (l : List Gd) (hs : a.eval s = v) (hown : OGd w B v l) (ad : Addr) (m : List Gd) (c : Nat) (hx : a.eval x = .slice (some ad) m.length c) (hA : GdL w (some ad) m c)
    (hn : l.length + m.length ≤ 8000000) (hB : B ≤ w.heap.size)
    (h : ∀ v' w', OGd w' B v' (l ++ m) → w.grownBy w' v.ownBlock → K (a.put o.dst v') w') : o.wp Try.prog a w K Q := by
  obtain ⟨i0, hi, hz0, hz1, hz2⟩ := info_parts infoGd
  exact wp_append_own w s x 23 ho B 34 i0 (.agg #[.int .u64 0, .int .u64 0]) 2 16 Try.underlying23 hi hz0 hz1 hz2 rfl (by decide) v l.length (gdRow l) hs hown ad m.length c (gdRow m) hx (gdRow_len m) (gdAt_row hA.gds) (gdRow_ones m) (by unfold maxLen; omega) (by omega) hB fun v' w' h2 h3 _ => h v' w' (OGd.app h2) h3
theorem ogd_slice {w : World} {B : Nat} {v : Value} {l : List Gd} (h : OGd w B v l) : ∃ X c, v = .slice X l.length c := by
  obtain ⟨X, c, e, _⟩ := OGd.viewL h
  exact ⟨X, c, e⟩
end Go.Proofs.Ytbbgeccbdellmaa.ln

/- The walk of LineAgain. -/
namespace Go.Proofs.Ytbbgeccbdellmaa.ln
open Go Go.RowKit Go.Sort Go.Proofs.Ytbbgeccbdellmaa Go.Proofs.Ytbbgeccbdellmaa.ib Go.Proofs.Ytbbgeccbdellmaa.lg
set_option maxRecDepth 100000

def WAgG (M : Ln) (l : List Gd) (A B : Option Addr) (c d g1 k2 : Nat) : Nat → Value → World → Prop
  | 0, v, _ => v = .int .i64 ((k2 : Nat) : Int)
  | 1, v, _ => v = .bool false
  | 2, v, _ => v = .bool false
  | 3, v, _ => v = .int .i64 ((k2 : Nat) : Int)
  | 4, v, _ => v = .slice A l.length c
  | 5, v, _ => v = .int .i64 l.length
  | 6, v, _ => v = .bool false
  | 7, v, _ => v = .bool false
  | 8, v, _ => v = .bool false
  | 9, v, _ => v = .slice A l.length c
  | 10, v, _ => v = .int .i64 ((k2 : Nat) : Int)
  | 11, v, _ => v = .slice A k2 c
  | 12, v, _ => v = .agg #[.int .u64 (M.ep : Int), .int .i64 M.bf, .bool M.ls, .slice B M.gs.length d]
  | 13, v, _ => v = .int .i64 ((k2 : Nat) : Int)
  | 14, v, _ => v = .int .i64 ((k2 : Nat) : Int)
  | 15, v, _ => v = .bool false
  | 16, v, _ => v = .bool false
  | _, _, _ => True
theorem WAgG_mono (M : Ln) (l : List Gd) (A B : Option Addr) (c d g1 k2 : Nat) (i : Nat) (v : Value) (w w' : World) (hi : i < 17) (h : WAgG M l A B c d g1 k2 i v w) (hb : Below w.heap.size w w') : WAgG M l A B c d g1 k2 i v w' := by
  match i, hi, h with
  | 0, _, h | 1, _, h | 2, _, h | 3, _, h | 4, _, h | 5, _, h | 6, _, h | 7, _, h | 8, _, h | 9, _, h | 10, _, h | 11, _, h | 12, _, h | 13, _, h | 14, _, h | 15, _, h | 16, _, h => exact h
  | j + 17, hi, _ => exact absurd hi (by omega)
set_option maxHeartbeats 12800000 in
theorem lineAgain_walk (A : Option Addr) (c : Nat) (l : List Gd) (u : Value) (M : Ln) (C : Option Addr) (e : Nat) (m : List Gd) (w : World) (hA : GdL w A l c) (hl : l.length * 16 ≤ 140737488351232) (hu : LnL w u M) (hy : szL M) (hC : GdL w C m e) (h1s : l.length ≤ 1048576) (h2s : M.gs.length ≤ 1048576) (h3s : m.length ≤ 1048576) :
    Calls Try.prog 7 #[.slice A l.length c, u, .slice C m.length e] w (endB true w) := by
  obtain ⟨B, d, rfl, hB⟩ := hu
  have hx := Blk.new w 25 #[.int .u64 (M.ep : Int), .int .i64 M.bf, .bool M.ls, .slice B M.gs.length d]
  have hb := (Below.refl w.heap.size w).alloc (Nat.le_refl _) (.cells #[.int .u64 (M.ep : Int), .int .i64 M.bf, .bool M.ls, .slice B M.gs.length d] 25)
  obtain ⟨V0, hV0⟩ : ∃ z, w.alloc (.cells #[.int .u64 (M.ep : Int), .int .i64 M.bf, .bool M.ls, .slice B M.gs.length d] 25) = z := ⟨_, rfl⟩
  rw [hV0] at hx hb
  have HA : Hid (GdL V0 A l c) := hA.below hb
  have HB' : Hid (GdL V0 B M.gs d) := hB.below hb
  have HC : Hid (GdL V0 C m e) := hC.below hb
  have HB := Lib.hid hb
  have HX := Lib.hid hx
  have HZ2 := Lib.hid hy
  have hll : l.length ≤ 9223372036854775807 := by omega
  have HLL := Lib.hid hll
  have HML := Lib.hid hy.int
  go_enter Try.func7, Try.ntmps7
  go_upto_region 1 with fail
  try rw [hV0]
  clear hV0 hA hB hC hb hx hy hl hll
  obtain ⟨g1, hg1⟩ : ∃ g, w.heap.size = g := ⟨_, rfl⟩
  rw [hg1] at HX
  try rw [hg1]
  clear hg1
  go_wp2_with fail
  refine (works_any V0).mono ?_
  rintro en V1 ⟨rfl, hb1⟩
  have nHC := HC.out.below hb1
  clear HC
  have HC := Lib.hid nHC
  clear nHC
  have nHA := HA.out.below hb1
  clear HA
  have HA := Lib.hid nHA
  clear nHA
  have nHB' := HB'.out.below hb1
  clear HB'
  have HB' := Lib.hid nHB'
  clear nHB'
  have nHX := HX.out.below hb1
  clear HX
  have HX := Lib.hid nHX
  clear nHX
  have hB1 := below_step HB.out hb1
  clear HB
  have HB := Lib.hid hB1
  clear hB1 hb1
  have HS1 : Hid (stays (l.take (stays l M)) M = stays l M) := stays_again l M
  have hse := (stays_le l M).2
  have HM1 : Hid (common l M.gs < M.gs.length → stays l { M with gs := M.gs ++ m } = stays l M) := fun h => stays_more l M m h
  have HM2 : Hid (common l M.gs ≤ stays l { M with gs := M.gs ++ m }) := stays_mono l M m
  obtain ⟨k1, hk1⟩ : ∃ k, common l M.gs = k := ⟨_, rfl⟩
  have K1 := Lib.hid hk1
  obtain ⟨k2, hk2⟩ : ∃ k, stays l M = k := ⟨_, rfl⟩
  have K2 := Lib.hid hk2
  obtain ⟨k3, hk3⟩ : ∃ k, stays l { M with gs := M.gs ++ m } = k := ⟨_, rfl⟩
  have K3 := Lib.hid hk3
  rw [hk1, hk2, hk3] at HM1
  rw [hk1, hk3] at HM2
  rw [hk2] at HS1 hse
  clear hk1 hk2 hk3
  have hcap := HA.out.cap
  obtain ⟨x0, x1, x2, x3⟩ := blk_ln HX.out
  have xl := HX.out.lt
  go_upto_region 3 with fail
  go_wp2_with fail
  refine (stays_is (l := l) (L := M) (n := k2) K2.out HA.out (lnL_agg HB'.out) HLL.out HML.out).mono ?_
  rintro en V2 ⟨rfl, hb2⟩
  have nHA := HA.out.below hb2
  clear HA
  have HA := Lib.hid nHA
  clear nHA
  have nHB' := HB'.out.below hb2
  clear HB'
  have HB' := Lib.hid nHB'
  clear nHB'
  have nHC := HC.out.below hb2
  clear HC
  have HC := Lib.hid nHC
  clear nHC
  have nHX := HX.out.below hb2
  clear HX
  have HX := Lib.hid nHX
  clear nHX
  have hB1 := below_step HB.out hb2
  clear HB
  have HB := Lib.hid hB1
  clear hB1 hb2 x0 x1 x2 x3 xl
  have HST : Hid (∀ W, Below V2.heap.size V2 W → Calls Try.prog 19 #[.slice A k2 c, .agg #[.int .u64 (M.ep : Int), .int .i64 M.bf, .bool M.ls, .slice B M.gs.length d]] W (endI ((k2 : Nat) : Int) W)) := fun W hb => by
    have h := stays_is (l := l.take k2) (L := M) (n := k2) HS1.out ((HA.out.take k2).below hb) (lnL_agg (HB'.out.below hb)) (by have := HLL.out; rw [List.length_take]; omega) HML.out
    rw [List.length_take, Nat.min_eq_left hse] at h
    exact h
  have hn0 : ¬ ((k2 : Nat) : Int) < 0 := by omega
  have hn1 : ¬ l.length < k2 := by omega
  have hn2 : ¬ (l.length : Int) < ((k2 : Nat) : Int) := by omega
  have hn3 : k2 ≤ c := by omega
  have hn4 : ((k2 : Nat) : Int) ≤ (c : Int) := by omega
  have hn5 : (0 : Int) ≤ ((k2 : Nat) : Int) := by omega
  go_upto_region 4 with fail
  refine wp_region_inv (by kernel_rfl) [15, 16, 17, 18, 19, 20, 21, 22, 23, 24, 25, 26, 27, 28, 29, 30, 31] (by kernel_rfl) (fun L vs W => Below V2.heap.size V2 W ∧ ∀ i, L i = true → i < 17 → WAgG M l A B c d g1 k2 i (vs i) W) ⟨(Below.refl _ _).drew, fun i hi => (by cases hi)⟩ ?_ ?_ ?_
  · intro i o L vs ρ W ho hli haft hρ hgd hI
    obtain ⟨hb, hG'⟩ := hI
    have hG : ∀ j, L j = true → WAgG M l A B c d g1 k2 j (vs j) W := fun j hj => by
      by_cases h51 : j < 17
      · exact hG' j hj h51
      · match j, h51 with
        | j + 17, _ => exact trivial
    have hi51 : i < 17 := (Array.getElem?_eq_some_iff.1 ho).1
    have hc := hρ.const
    have hfn := hρ.fn
    have nextG : ∀ v W', Below W.heap.size W W' → WAgG M l A B c d g1 k2 i v W' → ∀ j, updB L i j = true → j < 17 → WAgG M l A B c d g1 k2 j (updV vs i v j) W' := fun v W' h1 h2 j hj h51 => by
      by_cases hji : j = i
      · subst hji
        simpa [updV] using h2
      · simp only [updB, if_neg hji] at hj
        simpa [updV, hji] using WAgG_mono M l A B c d g1 k2 j _ W W' h51 (hG' j hj h51) h1
    have next : ∀ v W', Below W.heap.size W W' → WAgG M l A B c d g1 k2 i v W' → Below V2.heap.size V2 W' ∧ ∀ j, updB L i j = true → j < 17 → WAgG M l A B c d g1 k2 j (updV vs i v j) W' := fun v W' h1 h2 => ⟨below_step hb h1, nextG v W' h1 h2⟩
    obtain ⟨x0, x1, x2, x3⟩ := blk_ln (HX.out.below hb)
    have xl := (HX.out.below hb).lt
    rcases i with _ | _ | _ | _ | _ | _ | _ | _ | _ | _ | _ | _ | _ | _ | _ | _ | _ | i
    all_goals (first | omega | skip)
    all_goals simp only [List.getElem?_toArray, List.getElem?_cons_zero, List.getElem?_cons_succ, Option.some.injEq] at ho
    all_goals subst ho
    · have o7 : ρ (.tmp 7) = .int .i64 ((k2 : Nat) : Int) := hρ.out 7 rfl
      exact stepTo_value (w' := W) (by unfold execOp; simp only [o7, hc]; go_simp) (next _ _ (Below.refl _ _) rfl)
    · have g15 : WAgG M l A B c d g1 k2 0 (vs 0) W := hG 0 (haft 0 (by kernel_rfl))
      have s15 : ρ (.tmp 15) = .int .i64 ((k2 : Nat) : Int) := (hρ.at_ 15 0 rfl).trans g15
      exact stepTo_value (w' := W) (by unfold execOp; simp only [s15, hc]; go_simp) (next _ _ (Below.refl _ _) rfl)
    · have g16 : WAgG M l A B c d g1 k2 1 (vs 1) W := hG 1 (haft 1 (by kernel_rfl))
      have s16 : ρ (.tmp 16) = .bool false := (hρ.at_ 16 1 rfl).trans g16
      exact stepTo_value (w' := W) (by unfold execOp; simp only [s16, hc]; go_simp) (next _ _ (Below.refl _ _) rfl)
    · have o7 : ρ (.tmp 7) = .int .i64 ((k2 : Nat) : Int) := hρ.out 7 rfl
      exact stepTo_value (w' := W) (by unfold execOp; simp only [o7, hc]; go_simp) (next _ _ (Below.refl _ _) rfl)
    · have o0 : ρ (.tmp 0) = .slice A l.length c := hρ.out 0 rfl
      exact stepTo_value (w' := W) (by unfold execOp; simp only [o0, hc]; go_simp) (next _ _ (Below.refl _ _) rfl)
    · have g19 : WAgG M l A B c d g1 k2 4 (vs 4) W := hG 4 (haft 4 (by kernel_rfl))
      have s19 : ρ (.tmp 19) = .slice A l.length c := (hρ.at_ 19 4 rfl).trans g19
      exact stepTo_value (w' := W) (by unfold execOp; simp only [s19, hc]; go_simp) (next _ _ (Below.refl _ _) rfl)
    · have g18 : WAgG M l A B c d g1 k2 3 (vs 3) W := hG 3 (haft 3 (by kernel_rfl))
      have s18 : ρ (.tmp 18) = .int .i64 ((k2 : Nat) : Int) := (hρ.at_ 18 3 rfl).trans g18
      have g20 : WAgG M l A B c d g1 k2 5 (vs 5) W := hG 5 (haft 5 (by kernel_rfl))
      have s20 : ρ (.tmp 20) = .int .i64 l.length := (hρ.at_ 20 5 rfl).trans g20
      exact stepTo_value (w' := W) (by unfold execOp; simp only [s18, s20, hc]; go_simp) (next _ _ (Below.refl _ _) rfl)
    · have g17 : WAgG M l A B c d g1 k2 2 (vs 2) W := hG 2 (haft 2 (by kernel_rfl))
      have s17 : ρ (.tmp 17) = .bool false := (hρ.at_ 17 2 rfl).trans g17
      have g21 : WAgG M l A B c d g1 k2 6 (vs 6) W := hG 6 (haft 6 (by kernel_rfl))
      have s21 : ρ (.tmp 21) = .bool false := (hρ.at_ 21 6 rfl).trans g21
      exact stepTo_value (w' := W) (by unfold execOp; simp only [s17, s21, hc]; go_simp) (next _ _ (Below.refl _ _) rfl)
    · have g22 : WAgG M l A B c d g1 k2 7 (vs 7) W := hG 7 (haft 7 (by kernel_rfl))
      have s22 : ρ (.tmp 22) = .bool false := (hρ.at_ 22 7 rfl).trans g22
      exact stepTo_value (w' := W) (by unfold execOp; simp only [s22, hc]; go_simp) (next _ _ (Below.refl _ _) rfl)
    · have o0 : ρ (.tmp 0) = .slice A l.length c := hρ.out 0 rfl
      exact stepTo_value (w' := W) (by unfold execOp; simp only [o0, hc]; go_simp) (next _ _ (Below.refl _ _) rfl)
    · have o7 : ρ (.tmp 7) = .int .i64 ((k2 : Nat) : Int) := hρ.out 7 rfl
      exact stepTo_value (w' := W) (by unfold execOp; simp only [o7, hc]; go_simp) (next _ _ (Below.refl _ _) rfl)
    · have g24 : WAgG M l A B c d g1 k2 9 (vs 9) W := hG 9 (haft 9 (by kernel_rfl))
      have s24 : ρ (.tmp 24) = .slice A l.length c := (hρ.at_ 24 9 rfl).trans g24
      have g25 : WAgG M l A B c d g1 k2 10 (vs 10) W := hG 10 (haft 10 (by kernel_rfl))
      have s25 : ρ (.tmp 25) = .int .i64 ((k2 : Nat) : Int) := (hρ.at_ 25 10 rfl).trans g25
      exact stepTo_value (w' := W) (by unfold execOp; simp only [s24, s25, hc]; go_simp) (next _ _ (Below.refl _ _) rfl)
    · have o4 : ρ (.tmp 4) = .pointer (some ⟨g1, 0, none⟩) := hρ.out 4 rfl
      exact stepTo_value (w' := W) (by unfold execOp; simp only [o4, hc]; go_simp) (next _ _ (Below.refl _ _) rfl)
    · have g26 : WAgG M l A B c d g1 k2 11 (vs 11) W := hG 11 (haft 11 (by kernel_rfl))
      have s26 : ρ (.tmp 26) = .slice A k2 c := (hρ.at_ 26 11 rfl).trans g26
      have g27 : WAgG M l A B c d g1 k2 12 (vs 12) W := hG 12 (haft 12 (by kernel_rfl))
      have s27 : ρ (.tmp 27) = .agg #[.int .u64 (M.ep : Int), .int .i64 M.bf, .bool M.ls, .slice B M.gs.length d] := (hρ.at_ 27 12 rfl).trans g27
      refine stepTo_enter (f := 19) (args := #[.slice A k2 c, .agg #[.int .u64 (M.ep : Int), .int .i64 M.bf, .bool M.ls, .slice B M.gs.length d]]) (w' := W) (by unfold execOp; simp only [hfn, s26, s27]; go_simp) (((HST.out W hb)).mono ?_)
      rintro x W' ⟨rfl, hb'⟩
      exact ⟨_, rfl, next _ _ hb' rfl⟩
    · have o7 : ρ (.tmp 7) = .int .i64 ((k2 : Nat) : Int) := hρ.out 7 rfl
      exact stepTo_value (w' := W) (by unfold execOp; simp only [o7, hc]; go_simp) (next _ _ (Below.refl _ _) rfl)
    · have g28 : WAgG M l A B c d g1 k2 13 (vs 13) W := hG 13 (haft 13 (by kernel_rfl))
      have s28 : ρ (.tmp 28) = .int .i64 ((k2 : Nat) : Int) := (hρ.at_ 28 13 rfl).trans g28
      have g29 : WAgG M l A B c d g1 k2 14 (vs 14) W := hG 14 (haft 14 (by kernel_rfl))
      have s29 : ρ (.tmp 29) = .int .i64 ((k2 : Nat) : Int) := (hρ.at_ 29 14 rfl).trans g29
      exact stepTo_value (w' := W) (by unfold execOp; simp only [s28, s29, hc]; go_simp) (next _ _ (Below.refl _ _) rfl)
    · have g23 : WAgG M l A B c d g1 k2 8 (vs 8) W := hG 8 (haft 8 (by kernel_rfl))
      have s23 : ρ (.tmp 23) = .bool false := (hρ.at_ 23 8 rfl).trans g23
      have g30 : WAgG M l A B c d g1 k2 15 (vs 15) W := hG 15 (haft 15 (by kernel_rfl))
      have s30 : ρ (.tmp 30) = .bool false := (hρ.at_ 30 15 rfl).trans g30
      exact stepTo_value (w' := W) (by unfold execOp; simp only [s23, s30, hc]; go_simp) (next _ _ (Below.refl _ _) rfl)
  · intro i o L vs W j want ho hli haft hg hv hI
    obtain ⟨hb, hG'⟩ := hI
    have hG : ∀ j, L j = true → WAgG M l A B c d g1 k2 j (vs j) W := fun j hj => by
      by_cases h51 : j < 17
      · exact hG' j hj h51
      · match j, h51 with
        | j + 17, _ => exact trivial
    have hi51 : i < 17 := (Array.getElem?_eq_some_iff.1 ho).1
    rcases i with _ | _ | _ | _ | _ | _ | _ | _ | _ | _ | _ | _ | _ | _ | _ | _ | _ | i
    all_goals (first | omega | skip)
    all_goals simp only [List.getElem?_toArray, List.getElem?_cons_zero, List.getElem?_cons_succ, Option.some.injEq] at ho
    all_goals subst ho
    all_goals simp only [reduceCtorEq, Option.some.injEq, Prod.mk.injEq] at hg
    · obtain ⟨rfl, rfl⟩ := hg
      exact (hv (hG 2 (haft 2 (by kernel_rfl)))).elim
    · obtain ⟨rfl, rfl⟩ := hg
      exact (hv (hG 2 (haft 2 (by kernel_rfl)))).elim
    · obtain ⟨rfl, rfl⟩ := hg
      exact (hv (hG 2 (haft 2 (by kernel_rfl)))).elim
    · obtain ⟨rfl, rfl⟩ := hg
      exact (hv (hG 2 (haft 2 (by kernel_rfl)))).elim
    · obtain ⟨rfl, rfl⟩ := hg
      exact (hv (hG 8 (haft 8 (by kernel_rfl)))).elim
    · obtain ⟨rfl, rfl⟩ := hg
      exact (hv (hG 8 (haft 8 (by kernel_rfl)))).elim
    · obtain ⟨rfl, rfl⟩ := hg
      exact (hv (hG 8 (haft 8 (by kernel_rfl)))).elim
    · obtain ⟨rfl, rfl⟩ := hg
      exact (hv (hG 8 (haft 8 (by kernel_rfl)))).elim
    · obtain ⟨rfl, rfl⟩ := hg
      exact (hv (hG 8 (haft 8 (by kernel_rfl)))).elim
    · obtain ⟨rfl, rfl⟩ := hg
      exact (hv (hG 8 (haft 8 (by kernel_rfl)))).elim
    · obtain ⟨rfl, rfl⟩ := hg
      exact (hv (hG 8 (haft 8 (by kernel_rfl)))).elim
  intro vs V3 hI
  obtain ⟨hb, hG⟩ := hI
  have h16 : vs 16 = .bool false := hG 16 (by kernel_rfl) (by decide)
  have nHA := HA.out.below hb
  clear HA
  have HA := Lib.hid nHA
  clear nHA
  have nHB' := HB'.out.below hb
  clear HB'
  have HB' := Lib.hid nHB'
  clear nHB'
  have nHC := HC.out.below hb
  clear HC
  have HC := Lib.hid nHC
  clear nHC
  have nHX := HX.out.below hb
  clear HX
  have HX := Lib.hid nHX
  clear nHX
  have hB1 := below_step HB.out hb
  clear HB
  have HB := Lib.hid hB1
  clear hB1 hb hG HST hn0 hn1 hn2 hn3 hn4 hn5
  simp only [putList, putSel, if_true]
  rw [h16]
  generalize vs 0 = yr0
  generalize vs 1 = yr1
  generalize vs 2 = yr2
  generalize vs 3 = yr3
  generalize vs 4 = yr4
  generalize vs 5 = yr5
  generalize vs 6 = yr6
  generalize vs 7 = yr7
  generalize vs 8 = yr8
  generalize vs 9 = yr9
  generalize vs 10 = yr10
  generalize vs 11 = yr11
  generalize vs 12 = yr12
  generalize vs 13 = yr13
  generalize vs 14 = yr14
  generalize vs 15 = yr15
  clear h16
  simp only [Act.put, List.setIfInBounds_toArray, List.set_cons_succ, List.set_cons_zero]
  obtain ⟨x0, x1, x2, x3⟩ := blk_ln HX.out
  have xl := HX.out.lt
  go_upto_region 7 with fail
  have hk := Blk.new V3 25 #[.int .u64 (M.ep : Int), .int .i64 M.bf, .bool M.ls, .slice B M.gs.length d]
  have hd4 : Below V3.heap.size V3 (V3.alloc (.cells #[.int .u64 (M.ep : Int), .int .i64 M.bf, .bool M.ls, .slice B M.gs.length d] 25)) := (Below.refl _ _).alloc (Nat.le_refl _) _
  generalize V3.alloc (.cells #[.int .u64 (M.ep : Int), .int .i64 M.bf, .bool M.ls, .slice B M.gs.length d] 25) = V4 at *
  obtain ⟨gy, hgy⟩ : ∃ g, V3.heap.size = g := ⟨_, rfl⟩
  have HGY := Lib.hid hgy
  have HGX : Hid (g1 < gy) := by unfold Hid; rw [← hgy]; exact xl
  rw [hgy] at hk
  try rw [hgy]
  clear hgy x0 x1 x2 x3 xl
  have hk5 : Blk (V4.setCell ⟨gy, 3, none⟩ (.slice none 0 0)) gy 25 #[.int .u64 (M.ep : Int), .int .i64 M.bf, .bool M.ls, .slice none 0 0] := hk.set_ 3 _
  have hd5 : Below V3.heap.size V3 (V4.setCell ⟨gy, 3, none⟩ (.slice none 0 0)) := hd4.setCell (Nat.le_of_eq HGY.out) _
  have HK := Lib.hid hk5
  have HD := Lib.hid hd5
  have fy := hk.frozen 3
  have y3 := (blk_ln hk).2.2.2
  have hgl := hk.lt
  clear hk hk5 hd4 hd5
  go_upto_region 8 with fail
  clear fy y3 hgl
  generalize V4.setCell ⟨gy, 3, none⟩ (.slice none 0 0) = V5 at *
  have y3 := (blk_ln HK.out).2.2.2
  have x3 := (blk_ln (HX.out.below HD.out)).2.2.2
  have hgl := HK.out.lt
  have xl := (HX.out.below HD.out).lt
  have HBB := Lib.hid (HB'.out.below HD.out)
  have fy := HK.out.frozen 3
  go_wp2_with (at_builtin; refine wpList_append_gd rfl (.tmp 35) (.tmp 37) rfl V5.heap.size (.slice none 0 0) [] rfl (OGd.nil _ _) B M.gs d rfl HBB.out (by simp; omega) (Nat.le_refl _) ?_)
  intro v6 V6 ho6 hg6
  have hb6 := (Below.refl V5.heap.size V5).grown hg6 (Nat.le_refl _) (fun j hj => by simp [Value.ownBlock] at hj)
  try rw [List.nil_append] at ho6
  obtain ⟨X, cx, rfl⟩ := ogd_slice ho6
  have hk6 := HK.out.below hb6
  have hd6 := below_step HD.out hb6
  have hk7 : Blk (V6.setCell ⟨gy, 3, none⟩ (.slice X M.gs.length cx)) gy 25 #[.int .u64 (M.ep : Int), .int .i64 M.bf, .bool M.ls, .slice X M.gs.length cx] := hk6.set_ 3 _
  have hd7 : Below V3.heap.size V3 (V6.setCell ⟨gy, 3, none⟩ (.slice X M.gs.length cx)) := hd6.setCell (Nat.le_of_eq HGY.out) _
  have ho7 : OGd (V6.setCell ⟨gy, 3, none⟩ (.slice X M.gs.length cx)) V5.heap.size (.slice X M.gs.length cx) M.gs := row_of_block ho6 (fun j hj => set_oth _ _ _ _ _ (own_type ho6 hk6 (by decide) j hj))
  have HLO : Hid (V3.heap.size ≤ V5.heap.size) := HD.out.size
  have HS6 : Hid (V5.heap.size ≤ (V6.setCell ⟨gy, 3, none⟩ (.slice X M.gs.length cx)).heap.size) := by unfold Hid; have := hb6.size; simpa using this
  clear y3 x3 hgl xl fy HK HD hg6 hb6 HBB
  have HK := Lib.hid hk7
  have HD := Lib.hid hd7
  have HO := Lib.hid ho7
  have y3 := (blk_ln hk6).2.2.2
  have fy := hk6.frozen 3
  have hgl := hk6.lt
  clear hk6 hd6 hk7 hd7 ho6 ho7
  go_upto_region 9 with fail
  clear y3 fy hgl
  generalize V6.setCell ⟨gy, 3, none⟩ (.slice X M.gs.length cx) = V7 at *
  have y3 := (blk_ln HK.out).2.2.2
  have hgl := HK.out.lt
  have fy := HK.out.frozen 3
  have HCC := Lib.hid (HC.out.below HD.out)
  go_wp2_with (at_builtin; refine wpList_append_gd rfl (.tmp 41) (.tmp 42) rfl V5.heap.size (.slice X M.gs.length cx) M.gs rfl HO.out C m e rfl HCC.out (by omega) HS6.out ?_)
  intro v8 V8 ho8 hg8
  have hk8 : Blk V8 gy 25 #[.int .u64 (M.ep : Int), .int .i64 M.bf, .bool M.ls, .slice X M.gs.length cx] := HK.out.of_block (hg8.block gy HK.out.lt (fun h => own_type HO.out HK.out (by decide) gy h.symm rfl))
  have hd8 := HD.out.grown hg8 HD.out.size (fun j hj => Nat.le_trans HLO.out (HO.out.lt j hj).1)
  obtain ⟨Y, cy, hY⟩ := ogd_slice ho8
  obtain ⟨nn, hnn⟩ : ∃ n, (M.gs ++ m).length = n := ⟨_, rfl⟩
  have HNN := Lib.hid hnn
  rw [hnn] at hY
  subst hY
  clear hnn
  have hk9 : Blk (V8.setCell ⟨gy, 3, none⟩ (.slice Y nn cy)) gy 25 #[.int .u64 (M.ep : Int), .int .i64 M.bf, .bool M.ls, .slice Y nn cy] := hk8.set_ 3 _
  have hd9 : Below V3.heap.size V3 (V8.setCell ⟨gy, 3, none⟩ (.slice Y nn cy)) := hd8.setCell (Nat.le_of_eq HGY.out) _
  have ho9 : OGd (V8.setCell ⟨gy, 3, none⟩ (.slice Y nn cy)) V5.heap.size (.slice Y nn cy) (M.gs ++ m) := row_of_block ho8 (fun j hj => set_oth _ _ _ _ _ (own_type ho8 hk8 (by decide) j hj))
  clear y3 hgl fy HK HD HO hg8 HCC HLO HS6
  have HK := Lib.hid hk9
  have HD := Lib.hid hd9
  have HO := Lib.hid ho9
  have y3 := (blk_ln hk8).2.2.2
  have fy := hk8.frozen 3
  have hgl := hk8.lt
  clear hk8 hd8 hk9 hd9 ho8 ho9
  go_upto_region 10 with fail
  clear y3 fy hgl
  generalize V8.setCell ⟨gy, 3, none⟩ (.slice Y nn cy) = V9 at *
  have HLN : Hid ((M.gs ++ m).length ≤ 9223372036854775807) := by unfold Hid; rw [List.length_append]; omega
  obtain ⟨x0, x1, x2, x3⟩ := blk_ln (HX.out.below HD.out)
  have xl := (HX.out.below HD.out).lt
  have hB1 := below_step HB.out HD.out
  clear HB
  have HB := Lib.hid hB1
  clear hB1
  have HCO := Lib.hid (common_is (l := l) (L := M) (n := k1) K1.out (HA.out.below HD.out) (lnL_agg (HB'.out.below HD.out)) HLL.out HML.out)
  have HSL : Hid (∀ W, Below V9.heap.size V9 W → Calls Try.prog 19 #[.slice A l.length c, .agg #[.int .u64 (M.ep : Int), .int .i64 M.bf, .bool M.ls, .slice Y nn cy]] W (endI ((k3 : Nat) : Int) W)) := fun W hb => by
    have h := stays_is (l := l) (v := .agg #[.int .u64 (M.ep : Int), .int .i64 M.bf, .bool M.ls, .slice Y (M.gs ++ m).length cy]) (L := { M with gs := M.gs ++ m }) (n := k3) K3.out ((HA.out.below HD.out).below hb) (lnL_agg (L := { M with gs := M.gs ++ m }) (ogd_gdl (HO.out.below hb))) HLL.out HLN.out
    rw [HNN.out] at h
    exact h
  have HHX := Lib.hid (HX.out.below HD.out)
  clear HX HA HB' HC HO HD K1 K2 K3
  go_wp2_with fail
  refine HCO.out.mono ?_
  rintro en V10 ⟨rfl, hb10⟩
  have HB10 := Lib.hid (below_step HB.out hb10)
  have HSS := Lib.hid (HSL.out V10 hb10)
  have hx10 := HHX.out.below hb10
  have hk10 := HK.out.below hb10
  clear x0 x1 x2 x3 xl HCO HSL HHX HK hb10 HB
  obtain ⟨x0, x1, x2, x3⟩ := blk_ln hx10
  obtain ⟨y0, y1, y2, y3⟩ := blk_ln hk10
  have xl := hx10.lt
  have yl := hk10.lt
  clear hx10 hk10
  by_cases hc : k1 < M.gs.length
  · have hci : (k1 : Int) < (M.gs.length : Int) := by omega
    obtain rfl : k3 = k2 := HM1.out hc
    have hq : ((k3 : Int) == (k3 : Int)) = true := by simp
    go_wp2_with fail
    refine HSS.out.mono ?_
    rintro en V11 ⟨rfl, hb11⟩
    have HB11 := Lib.hid (below_step HB10.out hb11)
    clear hb11
    go_wp2_with fail
    go_ret
    exact ⟨rfl, HB11.out⟩
  · have hci : ¬ (k1 : Int) < (M.gs.length : Int) := by omega
    have hg1 : k1 ≤ k3 := HM2.out
    have hg2 : (k1 : Int) ≤ (k3 : Int) := by omega
    go_wp2_with fail
    refine HSS.out.mono ?_
    rintro en V11 ⟨rfl, hb11⟩
    have HB11 := Lib.hid (below_step HB10.out hb11)
    clear hb11
    go_wp2_with fail
    go_ret
    exact ⟨rfl, HB11.out⟩
end Go.Proofs.Ytbbgeccbdellmaa.ln

/- LineAgain, where what comes in is of bulk at most 1048576: what stays stays again, whole; and a line that goes on beyond what is common lets nothing more stay; of all lists and lines. -/
namespace Go.Proofs.Ytbbgeccbdellmaa.lineAgain
open Go.ChangeShapes Go.WideShapes Go.ChangeAt Go.RowKit
open Go.ChangeMaps (open_string shut_string)
open Go.Proofs.Ytbbgeccbdellmaa.ib Go.Proofs.Ytbbgeccbdellmaa.lg Go.Proofs.Ytbbgeccbdellmaa.ln

/-- What the bound gives. -/
theorem up_gd {H : Type} {d : DataW H} {n : Nat} (h : gdSz d n) (hb : Rows.uptoBulk d ≤ 1048576) : n ≤ 1048576 := by
  rcases h with rfl | ⟨el, sp, rfl, hle⟩
  · omega
  · have h1 : ∀ l : List (DataW H), l.length ≤ Rows.uptoBulkAll l := by
      intro l
      induction l with
      | nil => simp [Rows.uptoBulkAll]
      | cons x r ih =>
        have : 1 ≤ Rows.uptoBulk x := by
          cases x with
          | lit l => cases l <;> simp [Rows.uptoBulk]
          | nil => simp [Rows.uptoBulk]
          | ptr d => simp [Rows.uptoBulk]
          | slice elems spare => simp [Rows.uptoBulk]
          | agg parts => simp [Rows.uptoBulk]
          | iface t d => simp [Rows.uptoBulk]
          | map entries => simp [Rows.uptoBulk]
          | held h => simp [Rows.uptoBulk]
        simp only [Rows.uptoBulkAll, List.length_cons]
        omega
    have h2 := h1 el
    simp only [Rows.uptoBulk] at hb
    omega
theorem up_ln {H : Type} {d : DataW H} {n : Nat} (h : lnSz d n) (hb : Rows.uptoBulk d ≤ 1048576) : n ≤ 1048576 := by
  obtain ⟨d0, d1, d2, d3, rfl, h⟩ := h
  refine up_gd h ?_
  simp only [Rows.uptoBulk, Rows.uptoBulkAll] at hb
  omega
theorem up_three {H : Type} {d0 d1 d2 : DataW H} (h : Rows.uptoSmall H [d0, d1, d2] = true) : Rows.uptoBulk d0 ≤ 1048576 ∧ Rows.uptoBulk d1 ≤ 1048576 ∧ Rows.uptoBulk d2 ≤ 1048576 := by
  have hb : Rows.uptoBulkAll [d0, d1, d2] ≤ 1048576 := of_decide_eq_true h
  simp only [Rows.uptoBulkAll] at hb
  omega
theorem own : ownKnob Try.prog.godebug = none := by kernel_rfl
theorem laidOut : laidOutB Try.prog = true := by kernel_rfl

theorem witness (os : Os) {H : Type} (enc : TypeId × Value → H) :
    (Rows.OpenSpec.upto Rows.lineAgainSpec).preRow enc Try.prog Try.f7 Rows.lineAgainUptoRow.domain false Rows.lineAgainUptoRow.laid ((World.holding Try.prog os ⟨#[], #[], []⟩).forCall (fun _ _ => 0) ⟨#[], #[.slice none 0 0, .agg #[.int .u64 0, .int .i64 0, .bool false, .slice none 0 0], .slice none 0 0], []⟩).memory #[.slice none 0 0, .agg #[.int .u64 0, .int .i64 0, .bool false, .slice none 0 0], .slice none 0 0] := by
  have hw : (DataW.whole enc Try.prog ((World.holding Try.prog os ⟨#[], #[], []⟩).forCall (fun _ _ => 0) ⟨#[], #[.slice none 0 0, .agg #[.int .u64 0, .int .i64 0, .bool false, .slice none 0 0], .slice none 0 0], []⟩).memory Try.f7.params.toList (Rows.OpenSpec.upto Rows.lineAgainSpec).vars false (#[.slice none 0 0, .agg #[.int .u64 0, .int .i64 0, .bool false, .slice none 0 0], .slice none 0 0] : Array Value).toList 8).map (fun x => (x.1, x.2.1)) =
      some ([.nil, .agg [.lit (.int .u64 0), .lit (.int .i64 0), .lit (.bool false), .nil], .nil], []) := by kernel_rfl
  obtain ⟨⟨x1, x2, x3⟩, hx, hx1⟩ := Option.map_eq_some_iff.1 hw
  simp only [Prod.mk.injEq] at hx1
  obtain ⟨rfl, rfl⟩ := hx1
  exact OpenSpec.preRow_of_cond 8 hx (by kernel_rfl) (fun k hk => by cases hk; kernel_rfl) (by kernel_rfl) (laidMetH_nil _ _)

set_option maxRecDepth 100000 in
set_option maxHeartbeats 1600000 in
theorem lifted (os : Os) (started : os.Started) (H : Type) (enc : TypeId × Value → H) (F : Stop.Interp) :
    ReturnsInHanded {} Try.checked os 7 .any ((Rows.OpenSpec.upto Rows.lineAgainSpec).preRow enc Try.prog Try.f7 Rows.lineAgainUptoRow.domain false Rows.lineAgainUptoRow.laid) (((Rows.OpenSpec.upto Rows.lineAgainSpec).at F).post enc Try.prog Try.f7 false true false false) := by
  refine returnsInHanded_of_row (C := Try.checked) (s := Rows.OpenSpec.upto Rows.lineAgainSpec) own started (by kernel_rfl) Try.func7
    (witness_row_at (enc := enc) (C := Try.checked) false (World.holding Try.prog os ⟨#[], #[], []⟩) #[.slice none 0 0, .agg #[.int .u64 0, .int .i64 0, .bool false, .slice none 0 0], .slice none 0 0] rfl (by kernel_rfl) (by kernel_rfl) (by kernel_rfl) (witness os enc)) ?_
  intro W base args ds gs before hval0 hW _ hcond hsz0 hL _ _
  have hk0 := hcond _ rfl
  clear hcond
  have hsz : (DataW.weightsEach Try.prog (Try.f7.params.toList ++ (Rows.OpenSpec.upto Rows.lineAgainSpec).bare.plain.varTypes Try.prog) (ds ++ gs)).all (· ≤ reachBytes) = true := hsz0
  have hval : ∀ (j : Nat) t v, Try.f7.params[j]? = some t → args[j]? = some v → Value.okWide Try.prog W .any base t v := hval0
  have hW' := hW
  obtain ⟨p, q, hA0, hV, rfl, hfz, hnd⟩ := hW
  have hA : DataW.TrodAll enc Try.prog W 0 (fun _ => true) true Try.f7.params.toList args.toList ds p := hA0
  rw [Try.params7] at hA hval hsz
  obtain ⟨v0, vs0, d0, ds0, p0, q0, hargs, rfl, rfl, h0, r0⟩ := trodAll_cons hA
  obtain ⟨v1, vs1, d1, ds1, p1, q1, rfl, rfl, rfl, h1, r1⟩ := trodAll_cons r0
  obtain ⟨v2, vs2, d2, ds2, p2, q2, rfl, rfl, rfl, h2, r2⟩ := trodAll_cons r1
  obtain ⟨rfl, rfl, rfl⟩ := trodAll_nil r2
  obtain rfl : args = #[v0, v1, v2] := by cases args; simp_all
  obtain ⟨rfl, rfl⟩ := trodVars_none hV
  obtain ⟨a0, l0, c0, rfl⟩ := okWide_slice Try.underlying23 (hval 0 23 v0 rfl rfl)
  have k0 := h0
  have lt0 : ∀ x ∈ p0, x.block < W.heap.size := by obtain ⟨m, hm⟩ := k0; exact DataW.trod_lt m _ _ _ hm
  obtain ⟨zs0, hzl0, hS0, hM0⟩ := gdl_of k0
  subst hzl0
  have k1 := h1
  have lt1 : ∀ x ∈ p1, x.block < W.heap.size := by obtain ⟨m, hm⟩ := k1; exact DataW.trod_lt m _ _ _ hm
  obtain ⟨L1, hS1, hM1⟩ := line_of (hval 1 25 v1 rfl rfl) k1
  obtain ⟨a2, l2, c2, rfl⟩ := okWide_slice Try.underlying23 (hval 2 23 v2 rfl rfl)
  have k2 := h2
  have lt2 : ∀ x ∈ p2, x.block < W.heap.size := by obtain ⟨m, hm⟩ := k2; exact DataW.trod_lt m _ _ _ hm
  obtain ⟨zs2, hzl2, hS2, hM2⟩ := gdl_of k2
  subst hzl2
  have hz0 := sz_gdl hsz (j := 0) rfl rfl hS0
  have hz1 := sz_line hsz (j := 1) rfl rfl hS1
  have hz2 := sz_gdl hsz (j := 2) rfl rfl hS2
  clear hA0 hval0 hsz0
  simp only [List.append_nil] at hW' hk0
  obtain ⟨u0, u1, u2⟩ := up_three hk0
  refine (lineAgain_walk a0 c0 zs0 v1 L1 a2 c2 zs2 W hM0 hz0 hM1 hz1 hM2 (up_gd hS0 u0) (up_ln hS1 u1) (up_gd hS2 u2)).mono fun e W' ⟨he, hg⟩ => ?_
  subst he
  exact ⟨_, rfl, _, _, _, [], _, [], hW', trodAll_mk1 (shut_bool Try.underlying4 _), (trodAll_cons_mk (Below.trod laidOut (by kernel_rfl) (of_decide_eq_true (by kernel_rfl)) k0 hg lt0) (trodAll_cons_mk (Below.trod laidOut (by kernel_rfl) (of_decide_eq_true (by kernel_rfl)) k1 hg lt1) (trodAll_cons_mk (Below.trod laidOut (by kernel_rfl) (of_decide_eq_true (by kernel_rfl)) k2 hg lt2) trodAll_mk0))), rfl, hg.frame _, fun h => by cases h⟩

theorem over : Rows.LineAgainUptoSaid :=
  OpenClaim.holds_of_cond 7 Try.f7 rfl rfl rfl rfl rfl rfl rfl ⟨rfl, rfl, rfl, rfl, rfl⟩ rfl rfl rfl rfl rfl (by kernel_rfl) Try.func7 (by kernel_rfl)
    (of_decide_eq_true (by kernel_rfl)) (by unfold Func.isWrapper; first | (rw [if_pos (by decide +kernel)]; kernel_rfl) | (rw [if_neg (by decide +kernel)]; exact ⟨rfl, rfl⟩))
    (fun os started H enc _ F => by rw [OpenClaim.pre_eq_preRow]; exact lifted os started H enc F)

theorem proved : Rows.LineAgainUptoSaid :=
  over
#print axioms proved
end Go.Proofs.Ytbbgeccbdellmaa.lineAgain

