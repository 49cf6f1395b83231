/- LgWKn. -/
import Derived.Test.YtnnjcabgaefhcaaQ4
import Derived.Test.YtnnjcabgaefhcaaQLgLKnown0
set_option linter.unusedVariables false
set_option linter.unusedSimpArgs false
/- The walk of LogKnown. -/
namespace Go.Proofs.Ytnnjcabgaefhcaa.lg
open Go Go.RowKit Go.Sort Go.Proofs.Ytnnjcabgaefhcaa.ib
set_option maxRecDepth 100000

/-- The lists that Check is asked of. -/
def kls : List (List En) := [[⟨1, 1, 0, 0⟩, ⟨1, 2, 0, 0⟩, ⟨1, 3, 1, 1⟩, ⟨2, 1, 0, 0⟩], [], [⟨1, 1, 0, 0⟩, ⟨1, 1, 0, 0⟩], [⟨2, 1, 0, 0⟩, ⟨1, 2, 0, 0⟩], [⟨0, 1, 0, 0⟩], [⟨1, 1, 1, 1⟩], [⟨1, 3, 0, 1⟩], [⟨1, 0, 0, 0⟩], [⟨1, 4, 0, 0⟩], [⟨1, 3, 1, 0⟩]]
def kl (k : Nat) : List En := kls.getD k []
theorem kl_facts : ∀ k : Fin 10, lCheck (kl k.val) = (if k.val ≤ 2 then 0 else 2) ∧ (kl k.val).length ≤ 4 := by decide +kernel
/-- A list of lists. -/
def KlsAt (W : World) (gg : Nat) : Prop := ∃ cs, Blk W gg 22 cs ∧ ∀ k, k < 10 → ∃ A c, cs[k]? = some (.slice A (kl k).length c) ∧ EnL W A (kl k) c
theorem KlsAt.below {w w' : World} {g : Nat} (h : KlsAt w g) (hb : Below w.heap.size w w') : KlsAt w' g := by
  obtain ⟨cs, h1, h2⟩ := h
  exact ⟨cs, h1.below hb, fun k hk => by
    obtain ⟨A, c, h3, h4⟩ := h2 k hk
    exact ⟨A, c, h3, h4.below hb⟩⟩
theorem kls_lit {W W' : World} {g0 g2 g3 g4 g5 g6 g7 g8 g9 : Nat} (hW : W' = W.alloc (.cells #[.slice (some ⟨g0, 0, none⟩) 4 4, .slice none 0 0, .slice (some ⟨g2, 0, none⟩) 2 2, .slice (some ⟨g3, 0, none⟩) 2 2, .slice (some ⟨g4, 0, none⟩) 1 1, .slice (some ⟨g5, 0, none⟩) 1 1, .slice (some ⟨g6, 0, none⟩) 1 1, .slice (some ⟨g7, 0, none⟩) 1 1, .slice (some ⟨g8, 0, none⟩) 1 1, .slice (some ⟨g9, 0, none⟩) 1 1] 22))
    (h0 : EnL W (some ⟨g0, 0, none⟩) (kl 0) 4) (h2 : EnL W (some ⟨g2, 0, none⟩) (kl 2) 2) (h3 : EnL W (some ⟨g3, 0, none⟩) (kl 3) 2) (h4 : EnL W (some ⟨g4, 0, none⟩) (kl 4) 1) (h5 : EnL W (some ⟨g5, 0, none⟩) (kl 5) 1) (h6 : EnL W (some ⟨g6, 0, none⟩) (kl 6) 1) (h7 : EnL W (some ⟨g7, 0, none⟩) (kl 7) 1) (h8 : EnL W (some ⟨g8, 0, none⟩) (kl 8) 1) (h9 : EnL W (some ⟨g9, 0, none⟩) (kl 9) 1) : KlsAt W' W.heap.size := by
  subst hW
  have hb := (Below.refl W.heap.size W).alloc (Nat.le_refl _) (.cells #[.slice (some ⟨g0, 0, none⟩) 4 4, .slice none 0 0, .slice (some ⟨g2, 0, none⟩) 2 2, .slice (some ⟨g3, 0, none⟩) 2 2, .slice (some ⟨g4, 0, none⟩) 1 1, .slice (some ⟨g5, 0, none⟩) 1 1, .slice (some ⟨g6, 0, none⟩) 1 1, .slice (some ⟨g7, 0, none⟩) 1 1, .slice (some ⟨g8, 0, none⟩) 1 1, .slice (some ⟨g9, 0, none⟩) 1 1] 22)
  refine ⟨_, Blk.new _ _ _, fun k hk => ?_⟩
  match k, hk with
  | 0, _ => exact ⟨_, _, rfl, h0.below hb⟩
  | 1, _ => exact ⟨_, _, rfl, EnL.none _⟩
  | 2, _ => exact ⟨_, _, rfl, h2.below hb⟩
  | 3, _ => exact ⟨_, _, rfl, h3.below hb⟩
  | 4, _ => exact ⟨_, _, rfl, h4.below hb⟩
  | 5, _ => exact ⟨_, _, rfl, h5.below hb⟩
  | 6, _ => exact ⟨_, _, rfl, h6.below hb⟩
  | 7, _ => exact ⟨_, _, rfl, h7.below hb⟩
  | 8, _ => exact ⟨_, _, rfl, h8.below hb⟩
  | 9, _ => exact ⟨_, _, rfl, h9.below hb⟩
theorem gd_lit2 {w : World} {g : Nat} {a b c d : Nat} (h : Blk w g 33 #[.int .u64 (a : Int), .int .u64 (b : Int), .int .u64 (c : Int), .int .u64 (d : Int)]) : GdAt w (some ⟨g, 0, none⟩) [(a, b), (c, d)] := by
  intro i hi
  match i, hi with
  | 0, _ => exact ⟨g, 0, rfl, h.lt, h.cell 0, h.cell 1⟩
  | 1, _ => exact ⟨g, 0, rfl, h.lt, h.cell 2, h.cell 3⟩
def KcRel (W0 : World) (i : Value) (wr : World) : Prop := ∃ k : Nat, k ≤ 10 ∧ i = .int .i64 (k : Int) ∧ Below W0.heap.size W0 wr
def KoRel (W0 : World) (v i : Value) (wr : World) : Prop := ∃ k : Nat, k ≤ 300 ∧ i = .int .i64 (k : Int) ∧ OEn wr W0.heap.size v (List.replicate k ⟨1, 1, 0, 0⟩) ∧ Below W0.heap.size W0 wr
def K5G (g1 g2 : Nat) : Nat → Value → World → Prop
  | 0, v, _ => v = .agg #[.int .u64 1, .int .i64 1, .int .u64 0, .int .u64 0]
  | 1, v, _ => v = .agg #[.int .u64 1, .int .i64 2, .int .u64 0, .int .u64 0]
  | 2, v, _ => v = .agg #[.int .u64 1, .int .i64 3, .int .u64 1, .int .u64 1]
  | 3, v, _ => v = .agg #[.int .u64 2, .int .i64 1, .int .u64 0, .int .u64 0]
  | 4, v, W => ∃ a, v = .slice (some ⟨a, 0, none⟩) 4 4 ∧ EnL W (some ⟨a, 0, none⟩) (kl 0) 4
  | 5, v, _ => v = .agg #[.int .u64 1, .int .i64 1, .int .u64 0, .int .u64 0]
  | 6, v, _ => v = .agg #[.int .u64 1, .int .i64 1, .int .u64 0, .int .u64 0]
  | 7, v, W => ∃ a, v = .slice (some ⟨a, 0, none⟩) 2 2 ∧ EnL W (some ⟨a, 0, none⟩) (kl 2) 2
  | 8, v, _ => v = .agg #[.int .u64 2, .int .i64 1, .int .u64 0, .int .u64 0]
  | 9, v, _ => v = .agg #[.int .u64 1, .int .i64 2, .int .u64 0, .int .u64 0]
  | 10, v, W => ∃ a, v = .slice (some ⟨a, 0, none⟩) 2 2 ∧ EnL W (some ⟨a, 0, none⟩) (kl 3) 2
  | 11, v, _ => v = .agg #[.int .u64 0, .int .i64 1, .int .u64 0, .int .u64 0]
  | 12, v, W => ∃ a, v = .slice (some ⟨a, 0, none⟩) 1 1 ∧ EnL W (some ⟨a, 0, none⟩) (kl 4) 1
  | 13, v, _ => v = .agg #[.int .u64 1, .int .i64 1, .int .u64 1, .int .u64 1]
  | 14, v, W => ∃ a, v = .slice (some ⟨a, 0, none⟩) 1 1 ∧ EnL W (some ⟨a, 0, none⟩) (kl 5) 1
  | 15, v, _ => v = .agg #[.int .u64 1, .int .i64 3, .int .u64 0, .int .u64 1]
  | 16, v, W => ∃ a, v = .slice (some ⟨a, 0, none⟩) 1 1 ∧ EnL W (some ⟨a, 0, none⟩) (kl 6) 1
  | 17, v, _ => v = .agg #[.int .u64 1, .int .i64 0, .int .u64 0, .int .u64 0]
  | 18, v, W => ∃ a, v = .slice (some ⟨a, 0, none⟩) 1 1 ∧ EnL W (some ⟨a, 0, none⟩) (kl 7) 1
  | 19, v, _ => v = .agg #[.int .u64 1, .int .i64 4, .int .u64 0, .int .u64 0]
  | 20, v, W => ∃ a, v = .slice (some ⟨a, 0, none⟩) 1 1 ∧ EnL W (some ⟨a, 0, none⟩) (kl 8) 1
  | 21, v, _ => v = .agg #[.int .u64 1, .int .u64 0]
  | 22, v, _ => v = .agg #[.int .u64 1, .int .i64 3, .int .u64 1, .int .u64 0]
  | 23, v, W => ∃ a, v = .slice (some ⟨a, 0, none⟩) 1 1 ∧ EnL W (some ⟨a, 0, none⟩) (kl 9) 1
  | 24, v, W => ∃ a, v = .slice (some ⟨a, 0, none⟩) 10 10 ∧ KlsAt W a
  | 25, v, _ => v = .int .i64 10
  | 26, v, _ => v = .int .i64 0
  | _, _, _ => True
theorem K5G_mono (g1 g2 : Nat) (i : Nat) (v : Value) (w w' : World) (hi : i < 27) (h : K5G g1 g2 i v w) (hb : Below w.heap.size w w') : K5G g1 g2 i v w' := by
  match i, hi, h with
  | 0, _, h | 1, _, h | 2, _, h | 3, _, h | 5, _, h | 6, _, h | 8, _, h | 9, _, h | 11, _, h | 13, _, h | 15, _, h | 17, _, h | 19, _, h | 21, _, h | 22, _, h | 25, _, h | 26, _, h => exact h
  | 4, _, ⟨a, hv, h1⟩ => exact ⟨a, hv, h1.below hb⟩
  | 7, _, ⟨a, hv, h1⟩ => exact ⟨a, hv, h1.below hb⟩
  | 10, _, ⟨a, hv, h1⟩ => exact ⟨a, hv, h1.below hb⟩
  | 12, _, ⟨a, hv, h1⟩ => exact ⟨a, hv, h1.below hb⟩
  | 14, _, ⟨a, hv, h1⟩ => exact ⟨a, hv, h1.below hb⟩
  | 16, _, ⟨a, hv, h1⟩ => exact ⟨a, hv, h1.below hb⟩
  | 18, _, ⟨a, hv, h1⟩ => exact ⟨a, hv, h1.below hb⟩
  | 20, _, ⟨a, hv, h1⟩ => exact ⟨a, hv, h1.below hb⟩
  | 23, _, ⟨a, hv, h1⟩ => exact ⟨a, hv, h1.below hb⟩
  | 24, _, ⟨a, hv, h1⟩ => exact ⟨a, hv, h1.below hb⟩
  | j + 27, hi, _ => exact absurd hi (by omega)

set_option maxHeartbeats 25600000 in
theorem logKnown_walk (w : World) : Calls Try.prog 10 #[] w (endB true w) := by
  go_enter Try.func10, Try.ntmps10
  go_wp2_with fail
  refine (commit_any 1 1 w).mono ?_
  rintro e W1 ⟨rfl, hb1⟩
  have B1 := Lib.hid hb1
  clear hb1
  go_upto_region 3 with fail
  have k2 := Blk.new W1 35 #[.int .u64 1, .int .i64 3, .int .u64 0, .int .u64 1]
  obtain ⟨b2, -⟩ := lit_step B1.out (.cells #[.int .u64 1, .int .i64 3, .int .u64 0, .int .u64 1] 35)
  obtain ⟨W2, hW2⟩ : ∃ z, W1.alloc (.cells #[.int .u64 1, .int .i64 3, .int .u64 0, .int .u64 1] 35) = z := ⟨_, rfl⟩
  rw [hW2] at k2 b2
  have B2 := Lib.hid b2
  try rw [hW2]
  obtain ⟨g1, hg1⟩ : ∃ g, W1.heap.size = g := ⟨_, rfl⟩
  rw [hg1] at k2
  try rw [hg1]
  have K2 := Lib.hid k2
  clear hW2 hg1 k2 b2
  go_wp2_with fail
  refine (epoch_any 1 W2).mono ?_
  rintro e W3 ⟨rfl, hb3⟩
  have B3 := Lib.hid (below_step B2.out hb3)
  have K3 := Lib.hid (K2.out.below hb3)
  clear hb3
  go_upto_region 4 with fail
  have k4 := Blk.new W3 35 #[.int .u64 1, .int .i64 1, .int .u64 0, .int .u64 0]
  obtain ⟨b4, d4⟩ := lit_step B3.out (.cells #[.int .u64 1, .int .i64 1, .int .u64 0, .int .u64 0] 35)
  obtain ⟨W4, hW4⟩ : ∃ z, W3.alloc (.cells #[.int .u64 1, .int .i64 1, .int .u64 0, .int .u64 0] 35) = z := ⟨_, rfl⟩
  rw [hW4] at k4 b4 d4
  have B4 := Lib.hid b4
  have hne : g1 ≠ W3.heap.size := Nat.ne_of_lt K3.out.lt
  have hlow : w.heap.size ≤ W3.heap.size := B3.out.size
  try rw [hW4]
  obtain ⟨g2, hg2⟩ : ∃ g, W3.heap.size = g := ⟨_, rfl⟩
  rw [hg2] at k4 hne hlow
  try rw [hg2]
  have K4 := Lib.hid (K3.out.below d4)
  have L4 := Lib.hid k4
  clear hW4 hg2 k4 b4 d4
  go_wp2_with fail
  refine (guid_any 1 1 W4).mono ?_
  rintro e W5 ⟨rfl, hb5⟩
  have B5 := Lib.hid (below_step B4.out hb5)
  have K5 := Lib.hid (K4.out.below hb5)
  have L5 := Lib.hid (L4.out.below hb5)
  clear hb5
  obtain ⟨z0, z1, z2, z3⟩ := blk_agg4 L5.out
  have f2 := L5.out.frozen 2
  have f3 := L5.out.frozen 3
  have hgl := L5.out.lt
  go_upto_region 5 with fail
  obtain ⟨V0, hV0⟩ : ∃ z, (W5.setCell ⟨g2, 2, none⟩ (.int .u64 1)).setCell ⟨g2, 3, none⟩ (.int .u64 1) = z := ⟨_, rfl⟩
  have HG2 : Hid (Blk V0 g2 35 #[.int .u64 1, .int .i64 1, .int .u64 1, .int .u64 1]) := by
    rw [← hV0]
    exact (L5.out.set_ 2 _).set_ 3 _
  have HG1 : Hid (Blk V0 g1 35 #[.int .u64 1, .int .i64 3, .int .u64 0, .int .u64 1]) := by
    rw [← hV0]
    exact (K5.out.of_block (set_oth _ _ _ _ _ hne)).of_block (set_oth _ _ _ _ _ hne)
  have HB0 : Hid (Below w.heap.size w V0) := by
    rw [← hV0]
    exact (B5.out.setCell (p := ⟨g2, 2, none⟩) hlow _).setCell (p := ⟨g2, 3, none⟩) hlow _
  try rw [hV0]
  clear hV0 z0 z1 z2 z3 f2 f3 hgl hne hlow K2 K3 K4 L4 K5 L5 B1 B2 B3 B4 B5
  go_wp2_with fail
  refine wp_region_inv (by kernel_rfl) [18, 19, 20, 21, 22, 23, 24, 25, 26, 27, 28, 29, 30, 31, 32, 33, 34, 35, 36, 37, 38, 39, 40, 41, 42, 43, 44] (by kernel_rfl) (fun L vs W => Below V0.heap.size V0 W ∧ ∀ i, L i = true → i < 27 → K5G g1 g2 i (vs i) W) ⟨(Below.refl _ _).drew, fun i hi => by cases hi⟩ ?_ ?_ ?_
  · intro i o L vs ρ W ho hli haft hρ hgd hI
    obtain ⟨hb, hG'⟩ := hI
    have hG : ∀ j, L j = true → K5G g1 g2 j (vs j) W := fun j hj => by
      by_cases h51 : j < 27
      · exact hG' j hj h51
      · match j, h51 with
        | j + 27, _ => exact trivial
    have hi51 : i < 27 := (Array.getElem?_eq_some_iff.1 ho).1
    have hc := hρ.const
    have hfn := hρ.fn
    have next : ∀ v W', Below W.heap.size W W' → K5G g1 g2 i v W' → Below V0.heap.size V0 W' ∧ ∀ j, updB L i j = true → j < 27 → K5G g1 g2 j (updV vs i v j) W' := fun v W' h1 h2 => by
      refine ⟨below_step hb h1, fun j hj h51 => ?_⟩
      by_cases hji : j = i
      · subst hji
        simpa [updV] using h2
      · simp only [updB, if_neg hji] at hj
        simpa [updV, hji] using K5G_mono g1 g2 j _ W W' h51 (hG' j hj h51) h1
    obtain ⟨u0, u1, u2, u3⟩ := blk_agg4 (HG1.out.below hb)
    obtain ⟨z0, z1, z2, z3⟩ := blk_agg4 (HG2.out.below hb)
    have ul := (HG1.out.below hb).lt
    have zl := (HG2.out.below hb).lt
    rcases i with _ | _ | _ | _ | _ | _ | _ | _ | _ | _ | _ | _ | _ | _ | _ | _ | _ | _ | _ | _ | _ | _ | _ | _ | _ | _ | _ | i
    all_goals (first | omega | skip)
    all_goals simp only [List.getElem?_toArray, List.getElem?_cons_zero, List.getElem?_cons_succ, Option.some.injEq] at ho
    all_goals subst ho
    · refine stepTo_enter (f := 30) (args := #[.int .u64 1]) (w' := W) (by unfold execOp; simp only [hfn, ]; go_simp) (((epoch_any 1 W)).mono ?_)
      rintro x W' ⟨rfl, hb'⟩
      exact ⟨_, rfl, next _ _ hb' rfl⟩
    · refine stepTo_enter (f := 32) (args := #[.int .u64 1]) (w' := W) (by unfold execOp; simp only [hfn, ]; go_simp) (((lease_any 1 W)).mono ?_)
      rintro x W' ⟨rfl, hb'⟩
      exact ⟨_, rfl, next _ _ hb' rfl⟩
    · refine stepTo_enter (f := 29) (args := #[.int .u64 1, .int .u64 1]) (w' := W) (by unfold execOp; simp only [hfn, ]; go_simp) (((commit_any 1 1 W)).mono ?_)
      rintro x W' ⟨rfl, hb'⟩
      exact ⟨_, rfl, next _ _ hb' rfl⟩
    · refine stepTo_enter (f := 30) (args := #[.int .u64 2]) (w' := W) (by unfold execOp; simp only [hfn, ]; go_simp) (((epoch_any 2 W)).mono ?_)
      rintro x W' ⟨rfl, hb'⟩
      exact ⟨_, rfl, next _ _ hb' rfl⟩
    · have g18 : K5G g1 g2 0 (vs 0) W := hG 0 (haft 0 (by kernel_rfl))
      have s18 : ρ (.tmp 18) = .agg #[.int .u64 1, .int .i64 1, .int .u64 0, .int .u64 0] := (hρ.at_ 18 0 rfl).trans g18
      have g19 : K5G g1 g2 1 (vs 1) W := hG 1 (haft 1 (by kernel_rfl))
      have s19 : ρ (.tmp 19) = .agg #[.int .u64 1, .int .i64 2, .int .u64 0, .int .u64 0] := (hρ.at_ 19 1 rfl).trans g19
      have g20 : K5G g1 g2 2 (vs 2) W := hG 2 (haft 2 (by kernel_rfl))
      have s20 : ρ (.tmp 20) = .agg #[.int .u64 1, .int .i64 3, .int .u64 1, .int .u64 1] := (hρ.at_ 20 2 rfl).trans g20
      have g21 : K5G g1 g2 3 (vs 3) W := hG 3 (haft 3 (by kernel_rfl))
      have s21 : ρ (.tmp 21) = .agg #[.int .u64 2, .int .i64 1, .int .u64 0, .int .u64 0] := (hρ.at_ 21 3 rfl).trans g21
      exact stepTo_value (v := .slice (some ⟨W.heap.size, 0, none⟩) 4 4) (w' := W.alloc (.cells #[.int .u64 1, .int .i64 1, .int .u64 0, .int .u64 0, .int .u64 1, .int .i64 2, .int .u64 0, .int .u64 0, .int .u64 1, .int .i64 3, .int .u64 1, .int .u64 1, .int .u64 2, .int .i64 1, .int .u64 0, .int .u64 0] 35)) (by unfold execOp; simp only [s18, s19, s20, s21, hc]; go_simp) (next _ _ ((Below.refl _ W).alloc (Nat.le_refl _) _) ⟨W.heap.size, rfl, en_lit (l := kl 0) (Blk.new _ _ _) (by decide) (enB_all (by decide))⟩)
    · refine stepTo_enter (f := 30) (args := #[.int .u64 1]) (w' := W) (by unfold execOp; simp only [hfn, ]; go_simp) (((epoch_any 1 W)).mono ?_)
      rintro x W' ⟨rfl, hb'⟩
      exact ⟨_, rfl, next _ _ hb' rfl⟩
    · refine stepTo_enter (f := 30) (args := #[.int .u64 1]) (w' := W) (by unfold execOp; simp only [hfn, ]; go_simp) (((epoch_any 1 W)).mono ?_)
      rintro x W' ⟨rfl, hb'⟩
      exact ⟨_, rfl, next _ _ hb' rfl⟩
    · have g23 : K5G g1 g2 5 (vs 5) W := hG 5 (haft 5 (by kernel_rfl))
      have s23 : ρ (.tmp 23) = .agg #[.int .u64 1, .int .i64 1, .int .u64 0, .int .u64 0] := (hρ.at_ 23 5 rfl).trans g23
      have g24 : K5G g1 g2 6 (vs 6) W := hG 6 (haft 6 (by kernel_rfl))
      have s24 : ρ (.tmp 24) = .agg #[.int .u64 1, .int .i64 1, .int .u64 0, .int .u64 0] := (hρ.at_ 24 6 rfl).trans g24
      exact stepTo_value (v := .slice (some ⟨W.heap.size, 0, none⟩) 2 2) (w' := W.alloc (.cells #[.int .u64 1, .int .i64 1, .int .u64 0, .int .u64 0, .int .u64 1, .int .i64 1, .int .u64 0, .int .u64 0] 35)) (by unfold execOp; simp only [s23, s24, hc]; go_simp) (next _ _ ((Below.refl _ W).alloc (Nat.le_refl _) _) ⟨W.heap.size, rfl, en_lit (l := kl 2) (Blk.new _ _ _) (by decide) (enB_all (by decide))⟩)
    · refine stepTo_enter (f := 30) (args := #[.int .u64 2]) (w' := W) (by unfold execOp; simp only [hfn, ]; go_simp) (((epoch_any 2 W)).mono ?_)
      rintro x W' ⟨rfl, hb'⟩
      exact ⟨_, rfl, next _ _ hb' rfl⟩
    · refine stepTo_enter (f := 32) (args := #[.int .u64 1]) (w' := W) (by unfold execOp; simp only [hfn, ]; go_simp) (((lease_any 1 W)).mono ?_)
      rintro x W' ⟨rfl, hb'⟩
      exact ⟨_, rfl, next _ _ hb' rfl⟩
    · have g26 : K5G g1 g2 8 (vs 8) W := hG 8 (haft 8 (by kernel_rfl))
      have s26 : ρ (.tmp 26) = .agg #[.int .u64 2, .int .i64 1, .int .u64 0, .int .u64 0] := (hρ.at_ 26 8 rfl).trans g26
      have g27 : K5G g1 g2 9 (vs 9) W := hG 9 (haft 9 (by kernel_rfl))
      have s27 : ρ (.tmp 27) = .agg #[.int .u64 1, .int .i64 2, .int .u64 0, .int .u64 0] := (hρ.at_ 27 9 rfl).trans g27
      exact stepTo_value (v := .slice (some ⟨W.heap.size, 0, none⟩) 2 2) (w' := W.alloc (.cells #[.int .u64 2, .int .i64 1, .int .u64 0, .int .u64 0, .int .u64 1, .int .i64 2, .int .u64 0, .int .u64 0] 35)) (by unfold execOp; simp only [s26, s27, hc]; go_simp) (next _ _ ((Below.refl _ W).alloc (Nat.le_refl _) _) ⟨W.heap.size, rfl, en_lit (l := kl 3) (Blk.new _ _ _) (by decide) (enB_all (by decide))⟩)
    · refine stepTo_enter (f := 30) (args := #[.int .u64 0]) (w' := W) (by unfold execOp; simp only [hfn, ]; go_simp) (((epoch_any 0 W)).mono ?_)
      rintro x W' ⟨rfl, hb'⟩
      exact ⟨_, rfl, next _ _ hb' rfl⟩
    · have g29 : K5G g1 g2 11 (vs 11) W := hG 11 (haft 11 (by kernel_rfl))
      have s29 : ρ (.tmp 29) = .agg #[.int .u64 0, .int .i64 1, .int .u64 0, .int .u64 0] := (hρ.at_ 29 11 rfl).trans g29
      exact stepTo_value (v := .slice (some ⟨W.heap.size, 0, none⟩) 1 1) (w' := W.alloc (.cells #[.int .u64 0, .int .i64 1, .int .u64 0, .int .u64 0] 35)) (by unfold execOp; simp only [s29, hc]; go_simp) (next _ _ ((Below.refl _ W).alloc (Nat.le_refl _) _) ⟨W.heap.size, rfl, en_lit (l := kl 4) (Blk.new _ _ _) (by decide) (enB_all (by decide))⟩)
    · have o2 : ρ (.tmp 2) = .pointer (some ⟨g2, 0, none⟩) := hρ.out 2 rfl
      exact stepTo_value (w' := W) (by unfold execOp; simp only [o2, hc]; go_simp) (next _ _ (Below.refl _ _) rfl)
    · have g31 : K5G g1 g2 13 (vs 13) W := hG 13 (haft 13 (by kernel_rfl))
      have s31 : ρ (.tmp 31) = .agg #[.int .u64 1, .int .i64 1, .int .u64 1, .int .u64 1] := (hρ.at_ 31 13 rfl).trans g31
      exact stepTo_value (v := .slice (some ⟨W.heap.size, 0, none⟩) 1 1) (w' := W.alloc (.cells #[.int .u64 1, .int .i64 1, .int .u64 1, .int .u64 1] 35)) (by unfold execOp; simp only [s31, hc]; go_simp) (next _ _ ((Below.refl _ W).alloc (Nat.le_refl _) _) ⟨W.heap.size, rfl, en_lit (l := kl 5) (Blk.new _ _ _) (by decide) (enB_all (by decide))⟩)
    · have o1 : ρ (.tmp 1) = .pointer (some ⟨g1, 0, none⟩) := hρ.out 1 rfl
      exact stepTo_value (w' := W) (by unfold execOp; simp only [o1, hc]; go_simp) (next _ _ (Below.refl _ _) rfl)
    · have g33 : K5G g1 g2 15 (vs 15) W := hG 15 (haft 15 (by kernel_rfl))
      have s33 : ρ (.tmp 33) = .agg #[.int .u64 1, .int .i64 3, .int .u64 0, .int .u64 1] := (hρ.at_ 33 15 rfl).trans g33
      exact stepTo_value (v := .slice (some ⟨W.heap.size, 0, none⟩) 1 1) (w' := W.alloc (.cells #[.int .u64 1, .int .i64 3, .int .u64 0, .int .u64 1] 35)) (by unfold execOp; simp only [s33, hc]; go_simp) (next _ _ ((Below.refl _ W).alloc (Nat.le_refl _) _) ⟨W.heap.size, rfl, en_lit (l := kl 6) (Blk.new _ _ _) (by decide) (enB_all (by decide))⟩)
    · exact stepTo_value (w' := W) (by unfold execOp; simp only [hc]; go_simp) (next _ _ (Below.refl _ _) rfl)
    · have g35 : K5G g1 g2 17 (vs 17) W := hG 17 (haft 17 (by kernel_rfl))
      have s35 : ρ (.tmp 35) = .agg #[.int .u64 1, .int .i64 0, .int .u64 0, .int .u64 0] := (hρ.at_ 35 17 rfl).trans g35
      exact stepTo_value (v := .slice (some ⟨W.heap.size, 0, none⟩) 1 1) (w' := W.alloc (.cells #[.int .u64 1, .int .i64 0, .int .u64 0, .int .u64 0] 35)) (by unfold execOp; simp only [s35, hc]; go_simp) (next _ _ ((Below.refl _ W).alloc (Nat.le_refl _) _) ⟨W.heap.size, rfl, en_lit (l := kl 7) (Blk.new _ _ _) (by decide) (enB_all (by decide))⟩)
    · exact stepTo_value (w' := W) (by unfold execOp; simp only [hc]; go_simp) (next _ _ (Below.refl _ _) rfl)
    · have g37 : K5G g1 g2 19 (vs 19) W := hG 19 (haft 19 (by kernel_rfl))
      have s37 : ρ (.tmp 37) = .agg #[.int .u64 1, .int .i64 4, .int .u64 0, .int .u64 0] := (hρ.at_ 37 19 rfl).trans g37
      exact stepTo_value (v := .slice (some ⟨W.heap.size, 0, none⟩) 1 1) (w' := W.alloc (.cells #[.int .u64 1, .int .i64 4, .int .u64 0, .int .u64 0] 35)) (by unfold execOp; simp only [s37, hc]; go_simp) (next _ _ ((Below.refl _ W).alloc (Nat.le_refl _) _) ⟨W.heap.size, rfl, en_lit (l := kl 8) (Blk.new _ _ _) (by decide) (enB_all (by decide))⟩)
    · refine stepTo_enter (f := 31) (args := #[.int .u64 1, .int .u64 0]) (w' := W) (by unfold execOp; simp only [hfn, ]; go_simp) (((guid_any 1 0 W)).mono ?_)
      rintro x W' ⟨rfl, hb'⟩
      exact ⟨_, rfl, next _ _ hb' rfl⟩
    · have g39 : K5G g1 g2 21 (vs 21) W := hG 21 (haft 21 (by kernel_rfl))
      have s39 : ρ (.tmp 39) = .agg #[.int .u64 1, .int .u64 0] := (hρ.at_ 39 21 rfl).trans g39
      exact stepTo_value (w' := W) (by unfold execOp; simp only [s39, hc]; go_simp) (next _ _ (Below.refl _ _) rfl)
    · have g40 : K5G g1 g2 22 (vs 22) W := hG 22 (haft 22 (by kernel_rfl))
      have s40 : ρ (.tmp 40) = .agg #[.int .u64 1, .int .i64 3, .int .u64 1, .int .u64 0] := (hρ.at_ 40 22 rfl).trans g40
      exact stepTo_value (v := .slice (some ⟨W.heap.size, 0, none⟩) 1 1) (w' := W.alloc (.cells #[.int .u64 1, .int .i64 3, .int .u64 1, .int .u64 0] 35)) (by unfold execOp; simp only [s40, hc]; go_simp) (next _ _ ((Below.refl _ W).alloc (Nat.le_refl _) _) ⟨W.heap.size, rfl, en_lit (l := kl 9) (Blk.new _ _ _) (by decide) (enB_all (by decide))⟩)
    · obtain ⟨a22, g22, hh221⟩ : K5G g1 g2 4 (vs 4) W := hG 4 (haft 4 (by kernel_rfl))
      have s22 : ρ (.tmp 22) = .slice (some ⟨a22, 0, none⟩) 4 4 := (hρ.at_ 22 4 rfl).trans g22
      obtain ⟨a25, g25, hh251⟩ : K5G g1 g2 7 (vs 7) W := hG 7 (haft 7 (by kernel_rfl))
      have s25 : ρ (.tmp 25) = .slice (some ⟨a25, 0, none⟩) 2 2 := (hρ.at_ 25 7 rfl).trans g25
      obtain ⟨a28, g28, hh281⟩ : K5G g1 g2 10 (vs 10) W := hG 10 (haft 10 (by kernel_rfl))
      have s28 : ρ (.tmp 28) = .slice (some ⟨a28, 0, none⟩) 2 2 := (hρ.at_ 28 10 rfl).trans g28
      obtain ⟨a30, g30, hh301⟩ : K5G g1 g2 12 (vs 12) W := hG 12 (haft 12 (by kernel_rfl))
      have s30 : ρ (.tmp 30) = .slice (some ⟨a30, 0, none⟩) 1 1 := (hρ.at_ 30 12 rfl).trans g30
      obtain ⟨a32, g32, hh321⟩ : K5G g1 g2 14 (vs 14) W := hG 14 (haft 14 (by kernel_rfl))
      have s32 : ρ (.tmp 32) = .slice (some ⟨a32, 0, none⟩) 1 1 := (hρ.at_ 32 14 rfl).trans g32
      obtain ⟨a34, g34, hh341⟩ : K5G g1 g2 16 (vs 16) W := hG 16 (haft 16 (by kernel_rfl))
      have s34 : ρ (.tmp 34) = .slice (some ⟨a34, 0, none⟩) 1 1 := (hρ.at_ 34 16 rfl).trans g34
      obtain ⟨a36, g36, hh361⟩ : K5G g1 g2 18 (vs 18) W := hG 18 (haft 18 (by kernel_rfl))
      have s36 : ρ (.tmp 36) = .slice (some ⟨a36, 0, none⟩) 1 1 := (hρ.at_ 36 18 rfl).trans g36
      obtain ⟨a38, g38, hh381⟩ : K5G g1 g2 20 (vs 20) W := hG 20 (haft 20 (by kernel_rfl))
      have s38 : ρ (.tmp 38) = .slice (some ⟨a38, 0, none⟩) 1 1 := (hρ.at_ 38 20 rfl).trans g38
      obtain ⟨a41, g41, hh411⟩ : K5G g1 g2 23 (vs 23) W := hG 23 (haft 23 (by kernel_rfl))
      have s41 : ρ (.tmp 41) = .slice (some ⟨a41, 0, none⟩) 1 1 := (hρ.at_ 41 23 rfl).trans g41
      exact stepTo_value (v := .slice (some ⟨W.heap.size, 0, none⟩) 10 10) (w' := W.alloc (.cells #[.slice (some ⟨a22, 0, none⟩) 4 4, .slice none 0 0, .slice (some ⟨a25, 0, none⟩) 2 2, .slice (some ⟨a28, 0, none⟩) 2 2, .slice (some ⟨a30, 0, none⟩) 1 1, .slice (some ⟨a32, 0, none⟩) 1 1, .slice (some ⟨a34, 0, none⟩) 1 1, .slice (some ⟨a36, 0, none⟩) 1 1, .slice (some ⟨a38, 0, none⟩) 1 1, .slice (some ⟨a41, 0, none⟩) 1 1] 22)) (by unfold execOp; simp only [s22, s25, s28, s30, s32, s34, s36, s38, s41, hc]; go_simp) (next _ _ ((Below.refl _ W).alloc (Nat.le_refl _) _) ⟨W.heap.size, rfl, kls_lit rfl hh221 hh251 hh281 hh301 hh321 hh341 hh361 hh381 hh411⟩)
    · obtain ⟨a42, g42, hh421⟩ : K5G g1 g2 24 (vs 24) W := hG 24 (haft 24 (by kernel_rfl))
      have s42 : ρ (.tmp 42) = .slice (some ⟨a42, 0, none⟩) 10 10 := (hρ.at_ 42 24 rfl).trans g42
      exact stepTo_value (w' := W) (by unfold execOp; simp only [s42, hc]; go_simp) (next _ _ (Below.refl _ _) rfl)
    · exact stepTo_value (w' := W) (by unfold execOp; simp only [hc]; go_simp) (next _ _ (Below.refl _ _) rfl)
  · intro i o L vs W j want ho hli haft hg hv hI
    obtain ⟨hb, hG'⟩ := hI
    have hG : ∀ j, L j = true → K5G g1 g2 j (vs j) W := fun j hj => by
      by_cases h51 : j < 27
      · exact hG' j hj h51
      · match j, h51 with
        | j + 27, _ => exact trivial
    have hi51 : i < 27 := (Array.getElem?_eq_some_iff.1 ho).1
    rcases i with _ | _ | _ | _ | _ | _ | _ | _ | _ | _ | _ | _ | _ | _ | _ | _ | _ | _ | _ | _ | _ | _ | _ | _ | _ | _ | _ | i
    all_goals (first | omega | skip)
    all_goals simp only [List.getElem?_toArray, List.getElem?_cons_zero, List.getElem?_cons_succ, Option.some.injEq] at ho
    all_goals subst ho
    all_goals simp only [reduceCtorEq, Option.some.injEq, Prod.mk.injEq] at hg
  intro vs V1 hI
  obtain ⟨hb, hG⟩ := hI
  obtain ⟨gg, h24, hkl⟩ : K5G g1 g2 24 (vs 24) V1 := hG 24 (by kernel_rfl) (by decide)
  have h25 : vs 25 = .int .i64 10 := hG 25 (by kernel_rfl) (by decide)
  have h26 : vs 26 = .int .i64 0 := hG 26 (by kernel_rfl) (by decide)
  have B1 := Lib.hid (below_step HB0.out hb)
  have KL := Lib.hid hkl
  clear hb hG hkl HG1 HG2 HB0
  simp only [putList, putSel, if_true]
  rw [h24, h25, h26]
  generalize vs 0 = y0
  generalize vs 1 = y1
  generalize vs 2 = y2
  generalize vs 3 = y3
  generalize vs 4 = y4
  generalize vs 5 = y5
  generalize vs 6 = y6
  generalize vs 7 = y7
  generalize vs 8 = y8
  generalize vs 9 = y9
  generalize vs 10 = y10
  generalize vs 11 = y11
  generalize vs 12 = y12
  generalize vs 13 = y13
  generalize vs 14 = y14
  generalize vs 15 = y15
  generalize vs 16 = y16
  generalize vs 17 = y17
  generalize vs 18 = y18
  generalize vs 19 = y19
  generalize vs 20 = y20
  generalize vs 21 = y21
  generalize vs 22 = y22
  generalize vs 23 = y23
  clear h24 h25 h26
  simp only [Act.put, List.setIfInBounds_toArray, List.set_cons_succ, List.set_cons_zero]
  go_wp2_with fail
  go_loopw [44] (fun i wr => KcRel V1 i wr) (fun i _ => 10 - (intOf i).toNat)
  case atStart => exact ⟨0, by omega, rfl, Below.refl _ _⟩
  case round =>
    obtain ⟨k, hk, rfl, hb⟩ := hrel
    have DR := Lib.hid hb
    clear hb
    by_cases hlt : k < 10
    · have hki : (k : Int) < 10 := by omega
      obtain ⟨cs, hcs, hkk⟩ := KL.out.below DR.out
      obtain ⟨A, c, hc, hE⟩ := hkk k hlt
      have e0 : wr.cell? ⟨gg, k, none⟩ = some (.slice A (kl k).length c) := by rw [hcs.cell k]; exact hc
      have hgl := hcs.lt
      obtain ⟨hf1, hf2⟩ := kl_facts ⟨k, hlt⟩
      dsimp only at hf1 hf2
      have hck := check_any A c (kl k) wr hE.ents (by omega)
      rw [hf1] at hck
      clear hcs hkk hc hE hf1 hf2
      generalize (kl k).length = nk at *
      by_cases h2 : k ≤ 2
      · rw [if_pos h2] at hck
        have HC := Lib.hid hck
        have hg : ¬ (2 : Int) < (k : Int) := by omega
        clear hck h2
        go_wp2_with fail
        refine HC.out.mono ?_
        rintro e W' ⟨rfl, hb⟩
        have DQ := Lib.hid (below_step DR.out hb)
        clear hb HC e0
        go_wp2_with fail
        go_roundw
        case rel => exact ⟨k + 1, by omega, by go_num, DQ.out⟩
        case measure => simp [intOf]; omega
      · rw [if_neg h2] at hck
        have HC := Lib.hid hck
        have hg : (2 : Int) < (k : Int) := by omega
        clear hck h2
        go_wp2_with fail
        refine HC.out.mono ?_
        rintro e W' ⟨rfl, hb⟩
        have DQ := Lib.hid (below_step DR.out hb)
        clear hb HC e0
        go_wp2_with fail
        go_roundw
        case rel => exact ⟨k + 1, by omega, by go_num, DQ.out⟩
        case measure => simp [intOf]; omega
    · have hki : ¬ (k : Int) < 10 := by omega
      have B2 := Lib.hid (below_step B1.out DR.out)
      obtain ⟨V2, hV2⟩ : ∃ z, z = wr := ⟨_, rfl⟩
      subst hV2
      clear hk hlt DR KL B1
      obtain ⟨i0, hi, hz0, hz1, hz2⟩ := info_parts infoEn
      go_wp2_with fail
      go_loopw [6, 7] (fun v i wr => KoRel V2 v i wr) (fun _ i _ => 300 - (intOf i).toNat)
      case atStart => exact ⟨0, by omega, rfl, OEn.nil _ _, Below.refl _ _⟩
      case round =>
        obtain ⟨k2, hk, rfl, ho, hb⟩ := hrel
        have DR := Lib.hid hb
        have HO := Lib.hid ho
        clear ho hb
        by_cases hlt : k2 < 300
        · have hki2 : (k2 : Int) < 300 := by omega
          go_wp2_with fail
          refine (epoch_any 1 wr).mono ?_
          rintro e W3 ⟨rfl, hb⟩
          have hbn := (Below.refl W3.heap.size W3).alloc (Nat.le_refl _) (.cells #[.int .u64 1, .int .i64 1, .int .u64 0, .int .u64 0] 35)
          have HO3 := Lib.hid ((HO.out.below hb).below hbn)
          have D3 := Lib.hid (below_step (below_step DR.out hb) hbn)
          have hbk := Blk.new W3 35 #[.int .u64 1, .int .i64 1, .int .u64 0, .int .u64 0]
          have HN : Hid (∀ (j : Nat) (u : Value), (enV ⟨1, 1, 0, 0⟩)[j]? = some u → (W3.alloc (.cells #[.int .u64 1, .int .i64 1, .int .u64 0, .int .u64 0] 35)).cell? ((⟨W3.heap.size, 0, none⟩ : Addr).add j) = some u) := by
            intro j u hu
            rw [addr_add, Nat.zero_add, hbk.cell j]
            simpa [enV] using hu
          have HRL : Hid ((List.replicate k2 (⟨1, 1, 0, 0⟩ : En)).length = k2) := by unfold Hid; simp
          clear hb hbn hbk HO
          go_wp2_with (at_builtin; refine wpList_append_own _ rfl (.tmp 60) (.tmp 62) 22 rfl V2.heap.size 35 i0 (.agg #[.int .u64 0, .int .i64 0, .int .u64 0, .int .u64 0]) 4 32 Try.underlying22 hi hz0 hz1 hz2 rfl (by decide) _ _ _ rfl HO3.out ⟨W3.heap.size, 0, none⟩ 1 1 (enV ⟨1, 1, 0, 0⟩) rfl rfl HN.out (enV_ones _) ?_ ?_ D3.out.size ?_)
          · rw [HRL.out]; unfold maxLen; omega
          · rw [HRL.out]; omega
          · intro v' w4 hown hgrow _
            have D4 := Lib.hid (D3.out.grown hgrow D3.out.size (fun j hj => (HO3.out.lt j hj).1))
            have HO4 : Hid (OEn w4 V2.heap.size v' (List.replicate (k2 + 1) ⟨1, 1, 0, 0⟩)) := by
              unfold Hid
              rw [List.replicate_succ']
              unfold OEn
              rw [enRow_append, enRow_one, List.length_append, HRL.out]
              exact hown
            clear hown hgrow HO3 D3
            go_wp2_with fail
            go_roundw
            case rel => exact ⟨k2 + 1, by omega, by go_num, HO4.out, D4.out⟩
            case measure => simp [intOf]; omega
        · obtain rfl : k2 = 300 := by omega
          have B3 := Lib.hid (below_step B2.out DR.out)
          obtain ⟨V3, hV3⟩ : ∃ z, z = wr := ⟨_, rfl⟩
          subst hV3
          have HO3 := Lib.hid (show OEn _ w.heap.size _ (List.replicate 300 ⟨1, 1, 0, 0⟩) from row_base HO.out B2.out.size)
          clear hk hlt DR HO B2
          obtain ⟨lng, hlng⟩ : ∃ l, List.replicate 300 (⟨1, 1, 0, 0⟩ : En) = l := ⟨_, rfl⟩
          have HLN : Hid (lng.length = 300) := by rw [← hlng]; unfold Hid; simp
          have HLB : Hid (∀ x ∈ lng, enB x) := by
            rw [← hlng]
            intro x hx
            rw [List.eq_of_mem_replicate hx]
            exact enB_of (by decide)
          have HC0 : Hid (lCheck lng = 0) := by rw [← hlng]; unfold Hid; decide +kernel
          have HC1 : Hid (lCheck (lng ++ [⟨1, 1, 0, 0⟩]) = 3) := by unfold Hid lCheck; rw [if_pos (by rw [List.length_append, HLN.out]; decide)]
          have HC2 : Hid (lCheck (lng ++ [⟨0, 1, 0, 0⟩]) = 3) := by unfold Hid lCheck; rw [if_pos (by rw [List.length_append, HLN.out]; decide)]
          rw [hlng] at HO3
          clear hlng
          have h := HO3.out
          unfold OEn at h
          rw [HLN.out] at h
          rcases h.2 with ⟨_, h0⟩ | ⟨g, cap, cur, hv, _⟩
          · omega
          subst hv
          have hown3 : V3.ownsRow w.heap.size 35 4 (.slice (some ⟨g, 0, none⟩) 300 cap) 300 (enRow lng) := h
          clear h
          have OW := Lib.hid hown3
          have hE3 : EnL V3 (some ⟨g, 0, none⟩) lng cap := by
            obtain ⟨A, c, hv, hE, _⟩ := HO3.out.view HLB.out
            simp only [Value.slice.injEq] at hv
            obtain ⟨rfl, _, rfl⟩ := hv
            exact hE
          have hck := check_any (some ⟨g, 0, none⟩) cap lng V3 hE3.ents (by rw [HLN.out]; omega)
          rw [HC0.out, HLN.out] at hck
          have HCK := Lib.hid hck
          clear hck hE3 hown3 HO3
          go_wp2_with fail
          refine HCK.out.mono ?_
          rintro e V4 ⟨rfl, hb⟩
          have B4 := Lib.hid (below_step B3.out hb)
          have O4 := Lib.hid (row_of_block OW.out (fun j hj => hb.block j (OW.out.lt j hj).2))
          clear hb HCK OW

          go_wp2_with fail
          refine (epoch_any 1 V4).mono ?_
          rintro e V5 ⟨rfl, hb⟩
          have B4a := Lib.hid (below_step B4.out hb)
          have hbn := (Below.refl V5.heap.size V5).alloc (Nat.le_refl _) (.cells #[.int .u64 1, .int .i64 1, .int .u64 0, .int .u64 0] 35)
          have hol := (row_of_block (row_of_block O4.out (fun j hj => hb.block j (O4.out.lt j hj).2)) (fun j hj => hbn.block j (Nat.lt_of_lt_of_le (O4.out.lt j hj).2 hb.size)))
          have hbk := Blk.new V5 35 #[.int .u64 1, .int .i64 1, .int .u64 0, .int .u64 0]
          have hnw : ∀ (j : Nat) (u : Value), (enV ⟨1, 1, 0, 0⟩)[j]? = some u → (V5.alloc (.cells #[.int .u64 1, .int .i64 1, .int .u64 0, .int .u64 0] 35)).cell? ((⟨V5.heap.size, 0, none⟩ : Addr).add j) = some u := by
            intro j u hu
            rw [addr_add, Nat.zero_add, hbk.cell j]
            simpa [enV] using hu
          have hbz := B4a.out.alloc B4a.out.size (.cells #[.int .u64 1, .int .i64 1, .int .u64 0, .int .u64 0] 35)
          obtain ⟨vv, V5z, hrun, hov, hol2, hgr⟩ := run_append_keep (P := Try.prog) w.heap.size 22 22 35 i0 (.agg #[.int .u64 0, .int .i64 0, .int .u64 0, .int .u64 0]) Try.underlying22 hi hz0 (by rw [hz1]; rfl) g 300 cap (enRow lng) (by rw [hz1]; exact hol) ⟨V5.heap.size, 0, none⟩ 1 1 (enV ⟨1, 1, 0, 0⟩) (by rw [hz1]; rfl) hnw (enV_ones _) (by unfold maxLen; omega) (by rw [hz2]; omega) hbz.size
          rw [hz1] at hov hol2
          have B4b := Lib.hid (hbz.grown hgr hbz.size (fun j hj => by
            injection hj with hj
            subst hj
            exact (O4.out.lt _ rfl).1))
          have O5 := Lib.hid hol2
          have hov2 : OEn V5z w.heap.size vv (lng ++ [⟨1, 1, 0, 0⟩]) := by
            unfold OEn
            rw [enRow_append, enRow_one, List.length_append, HLN.out]
            exact hov
          obtain ⟨Av, cv, rfl, hEv, -⟩ := hov2.view (fun y hy => by
            rcases List.mem_append.1 hy with hy | hy
            · exact HLB.out y hy
            · simp only [List.mem_singleton] at hy
              subst hy
              exact enB_of (by decide))
          have hck := check_any Av cv (lng ++ [⟨1, 1, 0, 0⟩]) V5z hEv.ents (by rw [List.length_append, HLN.out]; decide)
          rw [HC1.out] at hck
          have hln : (lng ++ [(⟨1, 1, 0, 0⟩ : En)]).length = 301 := by rw [List.length_append, HLN.out]; rfl
          rw [hln] at hck hrun
          have HCK := Lib.hid hck
          have HRUN := Lib.hid hrun
          clear hb hbn hol hbk hnw hbz hrun hov hol2 hgr hov2 hEv hck hln O4
          go_wp2_with (at_builtin; refine wpList_value_w rfl (exec_append_run (.tmp 68) (.tmp 70) 22 rfl rfl rfl HRUN.out) ?_)
          refine HCK.out.mono ?_
          rintro e V5y ⟨rfl, hb⟩
          have B4c := Lib.hid (below_step B4b.out hb)
          have O5y := Lib.hid (row_of_block O5.out (fun j hj => hb.block j (O5.out.lt j hj).2))
          clear hb HCK HRUN O5
          go_wp2_with fail
          refine (epoch_any 0 V5y).mono ?_
          rintro e V6 ⟨rfl, hb⟩
          have B4ca := Lib.hid (below_step B4c.out hb)
          have hbn := (Below.refl V6.heap.size V6).alloc (Nat.le_refl _) (.cells #[.int .u64 0, .int .i64 1, .int .u64 0, .int .u64 0] 35)
          have hol := (row_of_block (row_of_block O5y.out (fun j hj => hb.block j (O5y.out.lt j hj).2)) (fun j hj => hbn.block j (Nat.lt_of_lt_of_le (O5y.out.lt j hj).2 hb.size)))
          have hbk := Blk.new V6 35 #[.int .u64 0, .int .i64 1, .int .u64 0, .int .u64 0]
          have hnw : ∀ (j : Nat) (u : Value), (enV ⟨0, 1, 0, 0⟩)[j]? = some u → (V6.alloc (.cells #[.int .u64 0, .int .i64 1, .int .u64 0, .int .u64 0] 35)).cell? ((⟨V6.heap.size, 0, none⟩ : Addr).add j) = some u := by
            intro j u hu
            rw [addr_add, Nat.zero_add, hbk.cell j]
            simpa [enV] using hu
          have hbz := B4ca.out.alloc B4ca.out.size (.cells #[.int .u64 0, .int .i64 1, .int .u64 0, .int .u64 0] 35)
          obtain ⟨vv, V6z, hrun, hov, hol2, hgr⟩ := run_append_keep (P := Try.prog) w.heap.size 22 22 35 i0 (.agg #[.int .u64 0, .int .i64 0, .int .u64 0, .int .u64 0]) Try.underlying22 hi hz0 (by rw [hz1]; rfl) g 300 cap (enRow lng) (by rw [hz1]; exact hol) ⟨V6.heap.size, 0, none⟩ 1 1 (enV ⟨0, 1, 0, 0⟩) (by rw [hz1]; rfl) hnw (enV_ones _) (by unfold maxLen; omega) (by rw [hz2]; omega) hbz.size
          rw [hz1] at hov hol2
          have B4cb := Lib.hid (hbz.grown hgr hbz.size (fun j hj => by
            injection hj with hj
            subst hj
            exact (O5y.out.lt _ rfl).1))
          have O6 := Lib.hid hol2
          have hov2 : OEn V6z w.heap.size vv (lng ++ [⟨0, 1, 0, 0⟩]) := by
            unfold OEn
            rw [enRow_append, enRow_one, List.length_append, HLN.out]
            exact hov
          obtain ⟨Av, cv, rfl, hEv, -⟩ := hov2.view (fun y hy => by
            rcases List.mem_append.1 hy with hy | hy
            · exact HLB.out y hy
            · simp only [List.mem_singleton] at hy
              subst hy
              exact enB_of (by decide))
          have hck := check_any Av cv (lng ++ [⟨0, 1, 0, 0⟩]) V6z hEv.ents (by rw [List.length_append, HLN.out]; decide)
          rw [HC2.out] at hck
          have hln : (lng ++ [(⟨0, 1, 0, 0⟩ : En)]).length = 301 := by rw [List.length_append, HLN.out]; rfl
          rw [hln] at hck hrun
          have HCK := Lib.hid hck
          have HRUN := Lib.hid hrun
          clear hb hbn hol hbk hnw hbz hrun hov hol2 hgr hov2 hEv hck hln O5y
          go_wp2_with (at_builtin; refine wpList_value_w rfl (exec_append_run (.tmp 76) (.tmp 78) 22 rfl rfl rfl HRUN.out) ?_)
          refine HCK.out.mono ?_
          rintro e V6y ⟨rfl, hb⟩
          have B4cc := Lib.hid (below_step B4cb.out hb)
          have O6y := Lib.hid (row_of_block O6.out (fun j hj => hb.block j (O6.out.lt j hj).2))
          clear hb HCK HRUN O6
          clear O6y HLN HLB HC0 HC1 HC2 hz0 hz1 hz2 hi
          go_wp2_with fail
          refine (epoch_any 1 V6y).mono ?_
          rintro e X1 ⟨rfl, hb⟩
          have BX1 := Lib.hid (below_step B4cc.out hb)
          clear hb B4cc
          go_wp2_with fail
          refine (epoch_any 2 X1).mono ?_
          rintro e X2 ⟨rfl, hb⟩
          have BX2 := Lib.hid (below_step BX1.out hb)
          clear hb BX1
          obtain ⟨hb, hd⟩ := lit_step BX2.out (.cells #[.int .u64 1, .int .i64 1, .int .u64 0, .int .u64 0, .int .u64 2, .int .i64 1, .int .u64 0, .int .u64 0] 35)
          have hk := Blk.new X2 35 #[.int .u64 1, .int .i64 1, .int .u64 0, .int .u64 0, .int .u64 2, .int .i64 1, .int .u64 0, .int .u64 0]
          have HX3 : X2.alloc (.cells #[.int .u64 1, .int .i64 1, .int .u64 0, .int .u64 0, .int .u64 2, .int .i64 1, .int .u64 0, .int .u64 0] 35) = X2.alloc (.cells #[.int .u64 1, .int .i64 1, .int .u64 0, .int .u64 0, .int .u64 2, .int .i64 1, .int .u64 0, .int .u64 0] 35) := rfl
          obtain ⟨X3, hWX3⟩ : ∃ z, X2.alloc (.cells #[.int .u64 1, .int .i64 1, .int .u64 0, .int .u64 0, .int .u64 2, .int .i64 1, .int .u64 0, .int .u64 0] 35) = z := ⟨_, rfl⟩
          clear HX3
          rw [hWX3] at hb hd hk
          have BX3 := Lib.hid hb
          have TWO := Lib.hid (en_lit (l := [⟨1, 1, 0, 0⟩, ⟨2, 1, 0, 0⟩]) hk (by decide) (enB_all (by decide)))
          have HWX3 := Lib.hid hWX3
          clear hb hd hk hWX3 BX2
          go_wp2_with fail
          try rw [HWX3.out]
          clear HWX3
          refine (epoch_any 1 X3).mono ?_
          rintro e X4 ⟨rfl, hb⟩
          have BX4 := Lib.hid (below_step BX3.out hb)
          have TWO_4 := Lib.hid (TWO.out.below hb)
          clear TWO
          clear hb BX3
          go_wp2_with fail
          refine (lease_any 1 X4).mono ?_
          rintro e X5 ⟨rfl, hb⟩
          have BX5 := Lib.hid (below_step BX4.out hb)
          have TWO_5 := Lib.hid (TWO_4.out.below hb)
          clear TWO_4
          clear hb BX4
          obtain ⟨hb, hd⟩ := lit_step BX5.out (.cells #[.int .u64 1, .int .i64 1, .int .u64 0, .int .u64 0, .int .u64 1, .int .i64 2, .int .u64 0, .int .u64 0] 35)
          have hk := Blk.new X5 35 #[.int .u64 1, .int .i64 1, .int .u64 0, .int .u64 0, .int .u64 1, .int .i64 2, .int .u64 0, .int .u64 0]
          have HX6 : X5.alloc (.cells #[.int .u64 1, .int .i64 1, .int .u64 0, .int .u64 0, .int .u64 1, .int .i64 2, .int .u64 0, .int .u64 0] 35) = X5.alloc (.cells #[.int .u64 1, .int .i64 1, .int .u64 0, .int .u64 0, .int .u64 1, .int .i64 2, .int .u64 0, .int .u64 0] 35) := rfl
          obtain ⟨X6, hWX6⟩ : ∃ z, X5.alloc (.cells #[.int .u64 1, .int .i64 1, .int .u64 0, .int .u64 0, .int .u64 1, .int .i64 2, .int .u64 0, .int .u64 0] 35) = z := ⟨_, rfl⟩
          clear HX6
          rw [hWX6] at hb hd hk
          have BX6 := Lib.hid hb
          have PAIR := Lib.hid (en_lit (l := [⟨1, 1, 0, 0⟩, ⟨1, 2, 0, 0⟩]) hk (by decide) (enB_all (by decide)))
          have HWX6 := Lib.hid hWX6
          have TWO_6 := Lib.hid (TWO_5.out.below hd)
          clear TWO_5
          clear hb hd hk hWX6 BX5
          go_wp2_with fail
          try rw [HWX6.out]
          clear HWX6
          have hs := fits_any _ 2 [⟨1, 1, 0, 0⟩, ⟨2, 1, 0, 0⟩] 2 2 X6 TWO_6.out.ents (by decide) (by unfold i64B; omega)
          rw [show lFits [⟨1, 1, 0, 0⟩, ⟨2, 1, 0, 0⟩] 2 2 = true from by decide +kernel] at hs
          refine hs.mono ?_
          clear hs
          rintro e wz ⟨rfl, hw⟩
          rw [hw]
          clear hw wz
          go_wp2_with fail
          have hs := fits_any _ 2 [⟨1, 1, 0, 0⟩, ⟨2, 1, 0, 0⟩] 2 1 X6 TWO_6.out.ents (by decide) (by unfold i64B; omega)
          rw [show lFits [⟨1, 1, 0, 0⟩, ⟨2, 1, 0, 0⟩] 2 1 = false from by decide +kernel] at hs
          refine hs.mono ?_
          clear hs
          rintro e wz ⟨rfl, hw⟩
          rw [hw]
          clear hw wz
          go_wp2_with fail
          have hs := fits_any _ 2 [⟨1, 1, 0, 0⟩, ⟨2, 1, 0, 0⟩] 1 1 X6 TWO_6.out.ents (by decide) (by unfold i64B; omega)
          rw [show lFits [⟨1, 1, 0, 0⟩, ⟨2, 1, 0, 0⟩] 1 1 = true from by decide +kernel] at hs
          refine hs.mono ?_
          clear hs
          rintro e wz ⟨rfl, hw⟩
          rw [hw]
          clear hw wz
          go_wp2_with fail
          have hs := fits_any _ 2 [⟨1, 1, 0, 0⟩, ⟨1, 2, 0, 0⟩] 0 0 X6 PAIR.out.ents (by decide) (by unfold i64B; omega)
          rw [show lFits [⟨1, 1, 0, 0⟩, ⟨1, 2, 0, 0⟩] 0 0 = true from by decide +kernel] at hs
          refine hs.mono ?_
          clear hs
          rintro e wz ⟨rfl, hw⟩
          rw [hw]
          clear hw wz
          go_wp2_with fail
          have hs := fits_any none 0 [] 0 1 X6 (EnAt.nil _ _) (by decide) (by unfold i64B; omega)
          rw [show lFits [] 0 1 = false from by decide +kernel] at hs
          refine hs.mono ?_
          clear hs
          rintro e wz ⟨rfl, hw⟩
          rw [hw]
          clear hw wz
          go_wp2_with fail
          have hs := fits_any _ 2 [⟨1, 1, 0, 0⟩, ⟨2, 1, 0, 0⟩] 3 2 X6 TWO_6.out.ents (by decide) (by unfold i64B; omega)
          rw [show lFits [⟨1, 1, 0, 0⟩, ⟨2, 1, 0, 0⟩] 3 2 = false from by decide +kernel] at hs
          refine hs.mono ?_
          clear hs
          rintro e wz ⟨rfl, hw⟩
          rw [hw]
          clear hw wz
          go_wp2_with fail
          have hs := fits_any _ 2 [⟨1, 1, 0, 0⟩, ⟨2, 1, 0, 0⟩] (-1) 0 X6 TWO_6.out.ents (by decide) (by unfold i64B; omega)
          rw [show lFits [⟨1, 1, 0, 0⟩, ⟨2, 1, 0, 0⟩] (-1) 0 = false from by decide +kernel] at hs
          refine hs.mono ?_
          clear hs
          rintro e wz ⟨rfl, hw⟩
          rw [hw]
          clear hw wz
          go_wp2_with fail
          have hs := newer_any _ 2 [⟨1, 1, 0, 0⟩, ⟨1, 2, 0, 0⟩] 1 2 X6 PAIR.out.ents (by decide)
          rw [show lNewer 2 1 [⟨1, 1, 0, 0⟩, ⟨1, 2, 0, 0⟩] = true from by decide +kernel] at hs
          refine hs.mono ?_
          clear hs
          rintro e wz ⟨rfl, hw⟩
          rw [hw]
          clear hw wz
          go_wp2_with fail
          have hs := newer_any _ 2 [⟨1, 1, 0, 0⟩, ⟨1, 2, 0, 0⟩] 1 1 X6 PAIR.out.ents (by decide)
          rw [show lNewer 1 1 [⟨1, 1, 0, 0⟩, ⟨1, 2, 0, 0⟩] = false from by decide +kernel] at hs
          refine hs.mono ?_
          clear hs
          rintro e wz ⟨rfl, hw⟩
          rw [hw]
          clear hw wz
          go_wp2_with fail
          have hs := newer_any _ 2 [⟨1, 1, 0, 0⟩, ⟨1, 2, 0, 0⟩] 2 1 X6 PAIR.out.ents (by decide)
          rw [show lNewer 1 2 [⟨1, 1, 0, 0⟩, ⟨1, 2, 0, 0⟩] = true from by decide +kernel] at hs
          refine hs.mono ?_
          clear hs
          rintro e wz ⟨rfl, hw⟩
          rw [hw]
          clear hw wz
          go_wp2_with fail
          have hs := newer_any none 0 [] 0 0 X6 (EnAt.nil _ _) (by decide)
          rw [show lNewer 0 0 [] = true from by decide +kernel] at hs
          refine hs.mono ?_
          clear hs
          rintro e wz ⟨rfl, hw⟩
          rw [hw]
          clear hw wz
          go_wp2_with fail
          have hs := newer_any _ 2 [⟨1, 1, 0, 0⟩, ⟨1, 2, 0, 0⟩] 9 0 X6 PAIR.out.ents (by decide)
          rw [show lNewer 0 9 [⟨1, 1, 0, 0⟩, ⟨1, 2, 0, 0⟩] = false from by decide +kernel] at hs
          refine hs.mono ?_
          clear hs
          rintro e wz ⟨rfl, hw⟩
          rw [hw]
          clear hw wz
          go_wp2_with fail
          have hs := newer_any _ 2 [⟨1, 1, 0, 0⟩, ⟨1, 2, 0, 0⟩] 3 1 X6 PAIR.out.ents (by decide)
          rw [show lNewer 1 3 [⟨1, 1, 0, 0⟩, ⟨1, 2, 0, 0⟩] = true from by decide +kernel] at hs
          refine hs.mono ?_
          clear hs
          rintro e wz ⟨rfl, hw⟩
          rw [hw]
          clear hw wz
          go_wp2_with fail
          refine (epoch_any 2 X6).mono ?_
          rintro e X7 ⟨rfl, hb⟩
          have BX7 := Lib.hid (below_step BX6.out hb)
          have TWO_7 := Lib.hid (TWO_6.out.below hb)
          clear TWO_6
          have PAIR_7 := Lib.hid (PAIR.out.below hb)
          clear PAIR
          clear hb BX6
          obtain ⟨hb, hd⟩ := lit_step BX7.out (.cells #[.int .u64 2, .int .i64 1, .int .u64 0, .int .u64 0] 35)
          have hk := Blk.new X7 35 #[.int .u64 2, .int .i64 1, .int .u64 0, .int .u64 0]
          have HX8 : X7.alloc (.cells #[.int .u64 2, .int .i64 1, .int .u64 0, .int .u64 0] 35) = X7.alloc (.cells #[.int .u64 2, .int .i64 1, .int .u64 0, .int .u64 0] 35) := rfl
          obtain ⟨X8, hWX8⟩ : ∃ z, X7.alloc (.cells #[.int .u64 2, .int .i64 1, .int .u64 0, .int .u64 0] 35) = z := ⟨_, rfl⟩
          clear HX8
          rw [hWX8] at hb hd hk
          have BX8 := Lib.hid hb
          have Q1 := Lib.hid (en_lit (l := [⟨2, 1, 0, 0⟩]) hk (by decide) (enB_all (by decide)))
          have HWX8 := Lib.hid hWX8
          have TWO_8 := Lib.hid (TWO_7.out.below hd)
          clear TWO_7
          have PAIR_8 := Lib.hid (PAIR_7.out.below hd)
          clear PAIR_7
          clear hb hd hk hWX8 BX7
          go_wp2_with fail
          try rw [HWX8.out]
          clear HWX8
          have hj := join_any _ _ _ _ [⟨1, 1, 0, 0⟩, ⟨1, 2, 0, 0⟩] [⟨2, 1, 0, 0⟩] 1 X8 PAIR_8.out Q1.out (by decide) (by decide) (by unfold i64B; omega)
          rw [show lJoin [⟨1, 1, 0, 0⟩, ⟨1, 2, 0, 0⟩] 1 [⟨2, 1, 0, 0⟩] = [⟨1, 1, 0, 0⟩, ⟨2, 1, 0, 0⟩] from by decide +kernel] at hj
          refine hj.mono ?_
          clear hj
          rintro e X9 ⟨v, rfl, ho, hb⟩
          obtain ⟨AX9, cX9, rfl, hE, -⟩ := ho.view (enB_all (by decide))
          have J1 := Lib.hid hE
          have BX9 := Lib.hid (below_step BX8.out hb)
          have TWO_9 := Lib.hid (TWO_8.out.below hb)
          clear TWO_8
          have PAIR_9 := Lib.hid (PAIR_8.out.below hb)
          clear PAIR_8
          have Q1_9 := Lib.hid (Q1.out.below hb)
          clear Q1
          clear hb ho hE BX8
          clear Q1_9
          go_wp2_with fail
          have hs := same_any _ _ cX9 2 [⟨1, 1, 0, 0⟩, ⟨2, 1, 0, 0⟩] [⟨1, 1, 0, 0⟩, ⟨2, 1, 0, 0⟩] X9 J1.out.ents (TWO_9.out.ents) (by decide) (by decide)
          rw [show decide (([⟨1, 1, 0, 0⟩, ⟨2, 1, 0, 0⟩] : List En) = [⟨1, 1, 0, 0⟩, ⟨2, 1, 0, 0⟩]) = true from by decide] at hs
          refine hs.mono ?_
          clear hs
          rintro e X10 ⟨rfl, hb⟩
          have BX10 := Lib.hid (below_step BX9.out hb)
          have TWO_10 := Lib.hid (TWO_9.out.below hb)
          clear TWO_9
          have PAIR_10 := Lib.hid (PAIR_9.out.below hb)
          clear PAIR_9
          have J1_10 := Lib.hid (J1.out.below hb)
          clear J1
          clear hb BX9
          clear J1_10
          go_wp2_with fail
          refine (epoch_any 1 X10).mono ?_
          rintro e X11 ⟨rfl, hb⟩
          have BX11 := Lib.hid (below_step BX10.out hb)
          have TWO_11 := Lib.hid (TWO_10.out.below hb)
          clear TWO_10
          have PAIR_11 := Lib.hid (PAIR_10.out.below hb)
          clear PAIR_10
          clear hb BX10
          obtain ⟨hb, hd⟩ := lit_step BX11.out (.cells #[.int .u64 1, .int .i64 1, .int .u64 0, .int .u64 0] 35)
          have hk := Blk.new X11 35 #[.int .u64 1, .int .i64 1, .int .u64 0, .int .u64 0]
          have HX12 : X11.alloc (.cells #[.int .u64 1, .int .i64 1, .int .u64 0, .int .u64 0] 35) = X11.alloc (.cells #[.int .u64 1, .int .i64 1, .int .u64 0, .int .u64 0] 35) := rfl
          obtain ⟨X12, hWX12⟩ : ∃ z, X11.alloc (.cells #[.int .u64 1, .int .i64 1, .int .u64 0, .int .u64 0] 35) = z := ⟨_, rfl⟩
          clear HX12
          rw [hWX12] at hb hd hk
          have BX12 := Lib.hid hb
          have Q2 := Lib.hid (en_lit (l := [⟨1, 1, 0, 0⟩]) hk (by decide) (enB_all (by decide)))
          have HWX12 := Lib.hid hWX12
          have TWO_12 := Lib.hid (TWO_11.out.below hd)
          clear TWO_11
          have PAIR_12 := Lib.hid (PAIR_11.out.below hd)
          clear PAIR_11
          clear hb hd hk hWX12 BX11
          go_wp2_with fail
          try rw [HWX12.out]
          clear HWX12
          have hj := join_any _ _ _ _ [⟨1, 1, 0, 0⟩, ⟨1, 2, 0, 0⟩] [⟨1, 1, 0, 0⟩] 0 X12 PAIR_12.out Q2.out (by decide) (by decide) (by unfold i64B; omega)
          rw [show lJoin [⟨1, 1, 0, 0⟩, ⟨1, 2, 0, 0⟩] 0 [⟨1, 1, 0, 0⟩] = [⟨1, 1, 0, 0⟩, ⟨1, 2, 0, 0⟩] from by decide +kernel] at hj
          refine hj.mono ?_
          clear hj
          rintro e X13 ⟨v, rfl, ho, hb⟩
          obtain ⟨AX13, cX13, rfl, hE, -⟩ := ho.view (enB_all (by decide))
          have J2 := Lib.hid hE
          have BX13 := Lib.hid (below_step BX12.out hb)
          have TWO_13 := Lib.hid (TWO_12.out.below hb)
          clear TWO_12
          have PAIR_13 := Lib.hid (PAIR_12.out.below hb)
          clear PAIR_12
          have Q2_13 := Lib.hid (Q2.out.below hb)
          clear Q2
          clear hb ho hE BX12
          clear Q2_13
          go_wp2_with fail
          have hs := same_any _ _ cX13 2 [⟨1, 1, 0, 0⟩, ⟨1, 2, 0, 0⟩] [⟨1, 1, 0, 0⟩, ⟨1, 2, 0, 0⟩] X13 J2.out.ents (PAIR_13.out.ents) (by decide) (by decide)
          rw [show decide (([⟨1, 1, 0, 0⟩, ⟨1, 2, 0, 0⟩] : List En) = [⟨1, 1, 0, 0⟩, ⟨1, 2, 0, 0⟩]) = true from by decide] at hs
          refine hs.mono ?_
          clear hs
          rintro e X14 ⟨rfl, hb⟩
          have BX14 := Lib.hid (below_step BX13.out hb)
          have TWO_14 := Lib.hid (TWO_13.out.below hb)
          clear TWO_13
          have PAIR_14 := Lib.hid (PAIR_13.out.below hb)
          clear PAIR_13
          have J2_14 := Lib.hid (J2.out.below hb)
          clear J2
          clear hb BX13
          clear J2_14
          go_wp2_with fail
          refine (commit_any 1 1 X14).mono ?_
          rintro e X15 ⟨rfl, hb⟩
          have BX15 := Lib.hid (below_step BX14.out hb)
          have TWO_15 := Lib.hid (TWO_14.out.below hb)
          clear TWO_14
          have PAIR_15 := Lib.hid (PAIR_14.out.below hb)
          clear PAIR_14
          clear hb BX14
          obtain ⟨hb, hd⟩ := lit_step BX15.out (.cells #[.int .u64 1, .int .i64 3, .int .u64 1, .int .u64 1] 35)
          have hk := Blk.new X15 35 #[.int .u64 1, .int .i64 3, .int .u64 1, .int .u64 1]
          have HX16 : X15.alloc (.cells #[.int .u64 1, .int .i64 3, .int .u64 1, .int .u64 1] 35) = X15.alloc (.cells #[.int .u64 1, .int .i64 3, .int .u64 1, .int .u64 1] 35) := rfl
          obtain ⟨X16, hWX16⟩ : ∃ z, X15.alloc (.cells #[.int .u64 1, .int .i64 3, .int .u64 1, .int .u64 1] 35) = z := ⟨_, rfl⟩
          clear HX16
          rw [hWX16] at hb hd hk
          have BX16 := Lib.hid hb
          have Q3 := Lib.hid (en_lit (l := [⟨1, 3, 1, 1⟩]) hk (by decide) (enB_all (by decide)))
          have HWX16 := Lib.hid hWX16
          have TWO_16 := Lib.hid (TWO_15.out.below hd)
          clear TWO_15
          have PAIR_16 := Lib.hid (PAIR_15.out.below hd)
          clear PAIR_15
          clear hb hd hk hWX16 BX15
          go_wp2_with fail
          try rw [HWX16.out]
          clear HWX16
          have hj := join_any _ _ _ _ [⟨1, 1, 0, 0⟩, ⟨1, 2, 0, 0⟩] [⟨1, 3, 1, 1⟩] 2 X16 PAIR_16.out Q3.out (by decide) (by decide) (by unfold i64B; omega)
          rw [show lJoin [⟨1, 1, 0, 0⟩, ⟨1, 2, 0, 0⟩] 2 [⟨1, 3, 1, 1⟩] = [⟨1, 1, 0, 0⟩, ⟨1, 2, 0, 0⟩, ⟨1, 3, 1, 1⟩] from by decide +kernel] at hj
          refine hj.mono ?_
          clear hj
          rintro e X17 ⟨v, rfl, ho, hb⟩
          obtain ⟨AX17, cX17, rfl, hE, -⟩ := ho.view (enB_all (by decide))
          have J3 := Lib.hid hE
          have BX17 := Lib.hid (below_step BX16.out hb)
          have TWO_17 := Lib.hid (TWO_16.out.below hb)
          clear TWO_16
          have PAIR_17 := Lib.hid (PAIR_16.out.below hb)
          clear PAIR_16
          have Q3_17 := Lib.hid (Q3.out.below hb)
          clear Q3
          clear hb ho hE BX16
          clear Q3_17
          go_wp2_with fail
          refine (epoch_any 1 X17).mono ?_
          rintro e X18 ⟨rfl, hb⟩
          have BX18 := Lib.hid (below_step BX17.out hb)
          have TWO_18 := Lib.hid (TWO_17.out.below hb)
          clear TWO_17
          have PAIR_18 := Lib.hid (PAIR_17.out.below hb)
          clear PAIR_17
          have J3_18 := Lib.hid (J3.out.below hb)
          clear J3
          clear hb BX17
          go_wp2_with fail
          refine (lease_any 1 X18).mono ?_
          rintro e X19 ⟨rfl, hb⟩
          have BX19 := Lib.hid (below_step BX18.out hb)
          have TWO_19 := Lib.hid (TWO_18.out.below hb)
          clear TWO_18
          have PAIR_19 := Lib.hid (PAIR_18.out.below hb)
          clear PAIR_18
          have J3_19 := Lib.hid (J3_18.out.below hb)
          clear J3_18
          clear hb BX18
          go_wp2_with fail
          refine (commit_any 1 1 X19).mono ?_
          rintro e X20 ⟨rfl, hb⟩
          have BX20 := Lib.hid (below_step BX19.out hb)
          have TWO_20 := Lib.hid (TWO_19.out.below hb)
          clear TWO_19
          have PAIR_20 := Lib.hid (PAIR_19.out.below hb)
          clear PAIR_19
          have J3_20 := Lib.hid (J3_19.out.below hb)
          clear J3_19
          clear hb BX19
          obtain ⟨hb, hd⟩ := lit_step BX20.out (.cells #[.int .u64 1, .int .i64 1, .int .u64 0, .int .u64 0, .int .u64 1, .int .i64 2, .int .u64 0, .int .u64 0, .int .u64 1, .int .i64 3, .int .u64 1, .int .u64 1] 35)
          have hk := Blk.new X20 35 #[.int .u64 1, .int .i64 1, .int .u64 0, .int .u64 0, .int .u64 1, .int .i64 2, .int .u64 0, .int .u64 0, .int .u64 1, .int .i64 3, .int .u64 1, .int .u64 1]
          have HX21 : X20.alloc (.cells #[.int .u64 1, .int .i64 1, .int .u64 0, .int .u64 0, .int .u64 1, .int .i64 2, .int .u64 0, .int .u64 0, .int .u64 1, .int .i64 3, .int .u64 1, .int .u64 1] 35) = X20.alloc (.cells #[.int .u64 1, .int .i64 1, .int .u64 0, .int .u64 0, .int .u64 1, .int .i64 2, .int .u64 0, .int .u64 0, .int .u64 1, .int .i64 3, .int .u64 1, .int .u64 1] 35) := rfl
          obtain ⟨X21, hWX21⟩ : ∃ z, X20.alloc (.cells #[.int .u64 1, .int .i64 1, .int .u64 0, .int .u64 0, .int .u64 1, .int .i64 2, .int .u64 0, .int .u64 0, .int .u64 1, .int .i64 3, .int .u64 1, .int .u64 1] 35) = z := ⟨_, rfl⟩
          clear HX21
          rw [hWX21] at hb hd hk
          have BX21 := Lib.hid hb
          have Q4 := Lib.hid (en_lit (l := [⟨1, 1, 0, 0⟩, ⟨1, 2, 0, 0⟩, ⟨1, 3, 1, 1⟩]) hk (by decide) (enB_all (by decide)))
          have HWX21 := Lib.hid hWX21
          have TWO_21 := Lib.hid (TWO_20.out.below hd)
          clear TWO_20
          have PAIR_21 := Lib.hid (PAIR_20.out.below hd)
          clear PAIR_20
          have J3_21 := Lib.hid (J3_20.out.below hd)
          clear J3_20
          clear hb hd hk hWX21 BX20
          go_wp2_with fail
          try rw [HWX21.out]
          clear HWX21
          have hs := same_any _ _ cX17 3 [⟨1, 1, 0, 0⟩, ⟨1, 2, 0, 0⟩, ⟨1, 3, 1, 1⟩] [⟨1, 1, 0, 0⟩, ⟨1, 2, 0, 0⟩, ⟨1, 3, 1, 1⟩] X21 J3_21.out.ents (Q4.out.ents) (by decide) (by decide)
          rw [show decide (([⟨1, 1, 0, 0⟩, ⟨1, 2, 0, 0⟩, ⟨1, 3, 1, 1⟩] : List En) = [⟨1, 1, 0, 0⟩, ⟨1, 2, 0, 0⟩, ⟨1, 3, 1, 1⟩]) = true from by decide] at hs
          refine hs.mono ?_
          clear hs
          rintro e X22 ⟨rfl, hb⟩
          have BX22 := Lib.hid (below_step BX21.out hb)
          have TWO_22 := Lib.hid (TWO_21.out.below hb)
          clear TWO_21
          have PAIR_22 := Lib.hid (PAIR_21.out.below hb)
          clear PAIR_21
          have J3_22 := Lib.hid (J3_21.out.below hb)
          clear J3_21
          have Q4_22 := Lib.hid (Q4.out.below hb)
          clear Q4
          clear hb BX21
          clear J3_22
          clear Q4_22
          go_wp2_with fail
          have hj := join_any _ _ _ _ [⟨1, 1, 0, 0⟩, ⟨1, 2, 0, 0⟩] [⟨1, 1, 0, 0⟩, ⟨2, 1, 0, 0⟩] 3 X22 PAIR_22.out TWO_22.out (by decide) (by decide) (by unfold i64B; omega)
          rw [show lJoin [⟨1, 1, 0, 0⟩, ⟨1, 2, 0, 0⟩] 3 [⟨1, 1, 0, 0⟩, ⟨2, 1, 0, 0⟩] = [⟨1, 1, 0, 0⟩, ⟨1, 2, 0, 0⟩] from by decide +kernel] at hj
          refine hj.mono ?_
          clear hj
          rintro e X23 ⟨v, rfl, ho, hb⟩
          obtain ⟨AX23, cX23, rfl, hE, -⟩ := ho.view (enB_all (by decide))
          have J4 := Lib.hid hE
          have BX23 := Lib.hid (below_step BX22.out hb)
          have TWO_23 := Lib.hid (TWO_22.out.below hb)
          clear TWO_22
          have PAIR_23 := Lib.hid (PAIR_22.out.below hb)
          clear PAIR_22
          clear hb ho hE BX22
          go_wp2_with fail
          have hs := same_any _ _ cX23 2 [⟨1, 1, 0, 0⟩, ⟨1, 2, 0, 0⟩] [⟨1, 1, 0, 0⟩, ⟨1, 2, 0, 0⟩] X23 J4.out.ents (PAIR_23.out.ents) (by decide) (by decide)
          rw [show decide (([⟨1, 1, 0, 0⟩, ⟨1, 2, 0, 0⟩] : List En) = [⟨1, 1, 0, 0⟩, ⟨1, 2, 0, 0⟩]) = true from by decide] at hs
          refine hs.mono ?_
          clear hs
          rintro e X24 ⟨rfl, hb⟩
          have BX24 := Lib.hid (below_step BX23.out hb)
          have TWO_24 := Lib.hid (TWO_23.out.below hb)
          clear TWO_23
          have PAIR_24 := Lib.hid (PAIR_23.out.below hb)
          clear PAIR_23
          have J4_24 := Lib.hid (J4.out.below hb)
          clear J4
          clear hb BX23
          clear J4_24
          go_wp2_with fail
          have hj := join_any _ _ _ _ [⟨1, 1, 0, 0⟩, ⟨1, 2, 0, 0⟩] [⟨1, 1, 0, 0⟩, ⟨2, 1, 0, 0⟩] (-1) X24 PAIR_24.out TWO_24.out (by decide) (by decide) (by unfold i64B; omega)
          rw [show lJoin [⟨1, 1, 0, 0⟩, ⟨1, 2, 0, 0⟩] (-1) [⟨1, 1, 0, 0⟩, ⟨2, 1, 0, 0⟩] = [⟨1, 1, 0, 0⟩, ⟨1, 2, 0, 0⟩] from by decide +kernel] at hj
          refine hj.mono ?_
          clear hj
          rintro e X25 ⟨v, rfl, ho, hb⟩
          obtain ⟨AX25, cX25, rfl, hE, -⟩ := ho.view (enB_all (by decide))
          have J5 := Lib.hid hE
          have BX25 := Lib.hid (below_step BX24.out hb)
          have TWO_25 := Lib.hid (TWO_24.out.below hb)
          clear TWO_24
          have PAIR_25 := Lib.hid (PAIR_24.out.below hb)
          clear PAIR_24
          clear hb ho hE BX24
          go_wp2_with fail
          have hs := same_any _ _ cX25 2 [⟨1, 1, 0, 0⟩, ⟨1, 2, 0, 0⟩] [⟨1, 1, 0, 0⟩, ⟨1, 2, 0, 0⟩] X25 J5.out.ents (PAIR_25.out.ents) (by decide) (by decide)
          rw [show decide (([⟨1, 1, 0, 0⟩, ⟨1, 2, 0, 0⟩] : List En) = [⟨1, 1, 0, 0⟩, ⟨1, 2, 0, 0⟩]) = true from by decide] at hs
          refine hs.mono ?_
          clear hs
          rintro e X26 ⟨rfl, hb⟩
          have BX26 := Lib.hid (below_step BX25.out hb)
          have TWO_26 := Lib.hid (TWO_25.out.below hb)
          clear TWO_25
          have PAIR_26 := Lib.hid (PAIR_25.out.below hb)
          clear PAIR_25
          have J5_26 := Lib.hid (J5.out.below hb)
          clear J5
          clear hb BX25
          clear J5_26
          go_wp2_with fail
          have hj := join_any _ _ _ _ [⟨1, 1, 0, 0⟩, ⟨1, 2, 0, 0⟩] [] 0 X26 PAIR_26.out (EnL.none _) (by decide) (by decide) (by unfold i64B; omega)
          rw [show lJoin [⟨1, 1, 0, 0⟩, ⟨1, 2, 0, 0⟩] 0 [] = [⟨1, 1, 0, 0⟩, ⟨1, 2, 0, 0⟩] from by decide +kernel] at hj
          refine hj.mono ?_
          clear hj
          rintro e X27 ⟨v, rfl, ho, hb⟩
          obtain ⟨AX27, cX27, rfl, hE, -⟩ := ho.view (enB_all (by decide))
          have J6 := Lib.hid hE
          have BX27 := Lib.hid (below_step BX26.out hb)
          have TWO_27 := Lib.hid (TWO_26.out.below hb)
          clear TWO_26
          have PAIR_27 := Lib.hid (PAIR_26.out.below hb)
          clear PAIR_26
          clear hb ho hE BX26
          go_wp2_with fail
          have hs := same_any _ _ cX27 2 [⟨1, 1, 0, 0⟩, ⟨1, 2, 0, 0⟩] [⟨1, 1, 0, 0⟩, ⟨1, 2, 0, 0⟩] X27 J6.out.ents (PAIR_27.out.ents) (by decide) (by decide)
          rw [show decide (([⟨1, 1, 0, 0⟩, ⟨1, 2, 0, 0⟩] : List En) = [⟨1, 1, 0, 0⟩, ⟨1, 2, 0, 0⟩]) = true from by decide] at hs
          refine hs.mono ?_
          clear hs
          rintro e X28 ⟨rfl, hb⟩
          have BX28 := Lib.hid (below_step BX27.out hb)
          have TWO_28 := Lib.hid (TWO_27.out.below hb)
          clear TWO_27
          have PAIR_28 := Lib.hid (PAIR_27.out.below hb)
          clear PAIR_27
          have J6_28 := Lib.hid (J6.out.below hb)
          clear J6
          clear hb BX27
          clear J6_28
          go_wp2_with fail
          refine (epoch_any 1 X28).mono ?_
          rintro e X29 ⟨rfl, hb⟩
          have BX29 := Lib.hid (below_step BX28.out hb)
          have TWO_29 := Lib.hid (TWO_28.out.below hb)
          clear TWO_28
          have PAIR_29 := Lib.hid (PAIR_28.out.below hb)
          clear PAIR_28
          clear hb BX28
          go_wp2_with fail
          refine (epoch_any 2 X29).mono ?_
          rintro e X30 ⟨rfl, hb⟩
          have BX30 := Lib.hid (below_step BX29.out hb)
          have TWO_30 := Lib.hid (TWO_29.out.below hb)
          clear TWO_29
          have PAIR_30 := Lib.hid (PAIR_29.out.below hb)
          clear PAIR_29
          clear hb BX29
          go_wp2_with fail
          refine (epoch_any 2 X30).mono ?_
          rintro e X31 ⟨rfl, hb⟩
          have BX31 := Lib.hid (below_step BX30.out hb)
          have TWO_31 := Lib.hid (TWO_30.out.below hb)
          clear TWO_30
          have PAIR_31 := Lib.hid (PAIR_30.out.below hb)
          clear PAIR_30
          clear hb BX30
          obtain ⟨hb, hd⟩ := lit_step BX31.out (.cells #[.int .u64 1, .int .i64 1, .int .u64 0, .int .u64 0, .int .u64 2, .int .i64 1, .int .u64 0, .int .u64 0, .int .u64 2, .int .i64 1, .int .u64 0, .int .u64 0] 35)
          have hk := Blk.new X31 35 #[.int .u64 1, .int .i64 1, .int .u64 0, .int .u64 0, .int .u64 2, .int .i64 1, .int .u64 0, .int .u64 0, .int .u64 2, .int .i64 1, .int .u64 0, .int .u64 0]
          have HX32 : X31.alloc (.cells #[.int .u64 1, .int .i64 1, .int .u64 0, .int .u64 0, .int .u64 2, .int .i64 1, .int .u64 0, .int .u64 0, .int .u64 2, .int .i64 1, .int .u64 0, .int .u64 0] 35) = X31.alloc (.cells #[.int .u64 1, .int .i64 1, .int .u64 0, .int .u64 0, .int .u64 2, .int .i64 1, .int .u64 0, .int .u64 0, .int .u64 2, .int .i64 1, .int .u64 0, .int .u64 0] 35) := rfl
          obtain ⟨X32, hWX32⟩ : ∃ z, X31.alloc (.cells #[.int .u64 1, .int .i64 1, .int .u64 0, .int .u64 0, .int .u64 2, .int .i64 1, .int .u64 0, .int .u64 0, .int .u64 2, .int .i64 1, .int .u64 0, .int .u64 0] 35) = z := ⟨_, rfl⟩
          clear HX32
          rw [hWX32] at hb hd hk
          have BX32 := Lib.hid hb
          have Q5 := Lib.hid (en_lit (l := [⟨1, 1, 0, 0⟩, ⟨2, 1, 0, 0⟩, ⟨2, 1, 0, 0⟩]) hk (by decide) (enB_all (by decide)))
          have HWX32 := Lib.hid hWX32
          have TWO_32 := Lib.hid (TWO_31.out.below hd)
          clear TWO_31
          have PAIR_32 := Lib.hid (PAIR_31.out.below hd)
          clear PAIR_31
          clear hb hd hk hWX32 BX31
          go_wp2_with fail
          try rw [HWX32.out]
          clear HWX32
          have hj := join_any _ _ _ _ [⟨1, 1, 0, 0⟩, ⟨1, 2, 0, 0⟩] [⟨1, 1, 0, 0⟩, ⟨2, 1, 0, 0⟩, ⟨2, 1, 0, 0⟩] 0 X32 PAIR_32.out Q5.out (by decide) (by decide) (by unfold i64B; omega)
          rw [show lJoin [⟨1, 1, 0, 0⟩, ⟨1, 2, 0, 0⟩] 0 [⟨1, 1, 0, 0⟩, ⟨2, 1, 0, 0⟩, ⟨2, 1, 0, 0⟩] = [⟨1, 1, 0, 0⟩, ⟨2, 1, 0, 0⟩, ⟨2, 1, 0, 0⟩] from by decide +kernel] at hj
          refine hj.mono ?_
          clear hj
          rintro e X33 ⟨v, rfl, ho, hb⟩
          obtain ⟨AX33, cX33, rfl, hE, -⟩ := ho.view (enB_all (by decide))
          have J7 := Lib.hid hE
          have BX33 := Lib.hid (below_step BX32.out hb)
          have TWO_33 := Lib.hid (TWO_32.out.below hb)
          clear TWO_32
          have PAIR_33 := Lib.hid (PAIR_32.out.below hb)
          clear PAIR_32
          have Q5_33 := Lib.hid (Q5.out.below hb)
          clear Q5
          clear hb ho hE BX32
          clear Q5_33
          go_wp2_with fail
          refine (epoch_any 1 X33).mono ?_
          rintro e X34 ⟨rfl, hb⟩
          have BX34 := Lib.hid (below_step BX33.out hb)
          have TWO_34 := Lib.hid (TWO_33.out.below hb)
          clear TWO_33
          have PAIR_34 := Lib.hid (PAIR_33.out.below hb)
          clear PAIR_33
          have J7_34 := Lib.hid (J7.out.below hb)
          clear J7
          clear hb BX33
          go_wp2_with fail
          refine (epoch_any 2 X34).mono ?_
          rintro e X35 ⟨rfl, hb⟩
          have BX35 := Lib.hid (below_step BX34.out hb)
          have TWO_35 := Lib.hid (TWO_34.out.below hb)
          clear TWO_34
          have PAIR_35 := Lib.hid (PAIR_34.out.below hb)
          clear PAIR_34
          have J7_35 := Lib.hid (J7_34.out.below hb)
          clear J7_34
          clear hb BX34
          go_wp2_with fail
          refine (epoch_any 2 X35).mono ?_
          rintro e X36 ⟨rfl, hb⟩
          have BX36 := Lib.hid (below_step BX35.out hb)
          have TWO_36 := Lib.hid (TWO_35.out.below hb)
          clear TWO_35
          have PAIR_36 := Lib.hid (PAIR_35.out.below hb)
          clear PAIR_35
          have J7_36 := Lib.hid (J7_35.out.below hb)
          clear J7_35
          clear hb BX35
          obtain ⟨hb, hd⟩ := lit_step BX36.out (.cells #[.int .u64 1, .int .i64 1, .int .u64 0, .int .u64 0, .int .u64 2, .int .i64 1, .int .u64 0, .int .u64 0, .int .u64 2, .int .i64 1, .int .u64 0, .int .u64 0] 35)
          have hk := Blk.new X36 35 #[.int .u64 1, .int .i64 1, .int .u64 0, .int .u64 0, .int .u64 2, .int .i64 1, .int .u64 0, .int .u64 0, .int .u64 2, .int .i64 1, .int .u64 0, .int .u64 0]
          have HX37 : X36.alloc (.cells #[.int .u64 1, .int .i64 1, .int .u64 0, .int .u64 0, .int .u64 2, .int .i64 1, .int .u64 0, .int .u64 0, .int .u64 2, .int .i64 1, .int .u64 0, .int .u64 0] 35) = X36.alloc (.cells #[.int .u64 1, .int .i64 1, .int .u64 0, .int .u64 0, .int .u64 2, .int .i64 1, .int .u64 0, .int .u64 0, .int .u64 2, .int .i64 1, .int .u64 0, .int .u64 0] 35) := rfl
          obtain ⟨X37, hWX37⟩ : ∃ z, X36.alloc (.cells #[.int .u64 1, .int .i64 1, .int .u64 0, .int .u64 0, .int .u64 2, .int .i64 1, .int .u64 0, .int .u64 0, .int .u64 2, .int .i64 1, .int .u64 0, .int .u64 0] 35) = z := ⟨_, rfl⟩
          clear HX37
          rw [hWX37] at hb hd hk
          have BX37 := Lib.hid hb
          have Q6 := Lib.hid (en_lit (l := [⟨1, 1, 0, 0⟩, ⟨2, 1, 0, 0⟩, ⟨2, 1, 0, 0⟩]) hk (by decide) (enB_all (by decide)))
          have HWX37 := Lib.hid hWX37
          have TWO_37 := Lib.hid (TWO_36.out.below hd)
          clear TWO_36
          have PAIR_37 := Lib.hid (PAIR_36.out.below hd)
          clear PAIR_36
          have J7_37 := Lib.hid (J7_36.out.below hd)
          clear J7_36
          clear hb hd hk hWX37 BX36
          go_wp2_with fail
          try rw [HWX37.out]
          clear HWX37
          have hs := same_any _ _ cX33 3 [⟨1, 1, 0, 0⟩, ⟨2, 1, 0, 0⟩, ⟨2, 1, 0, 0⟩] [⟨1, 1, 0, 0⟩, ⟨2, 1, 0, 0⟩, ⟨2, 1, 0, 0⟩] X37 J7_37.out.ents (Q6.out.ents) (by decide) (by decide)
          rw [show decide (([⟨1, 1, 0, 0⟩, ⟨2, 1, 0, 0⟩, ⟨2, 1, 0, 0⟩] : List En) = [⟨1, 1, 0, 0⟩, ⟨2, 1, 0, 0⟩, ⟨2, 1, 0, 0⟩]) = true from by decide] at hs
          refine hs.mono ?_
          clear hs
          rintro e X38 ⟨rfl, hb⟩
          have BX38 := Lib.hid (below_step BX37.out hb)
          have TWO_38 := Lib.hid (TWO_37.out.below hb)
          clear TWO_37
          have PAIR_38 := Lib.hid (PAIR_37.out.below hb)
          clear PAIR_37
          have J7_38 := Lib.hid (J7_37.out.below hb)
          clear J7_37
          have Q6_38 := Lib.hid (Q6.out.below hb)
          clear Q6
          clear hb BX37
          clear J7_38
          clear Q6_38
          go_wp2_with fail
          have hs := same_any _ _ 2 2 [⟨1, 1, 0, 0⟩, ⟨1, 2, 0, 0⟩] [⟨1, 1, 0, 0⟩, ⟨2, 1, 0, 0⟩] X38 PAIR_38.out.ents (TWO_38.out.ents) (by decide) (by decide)
          rw [show decide (([⟨1, 1, 0, 0⟩, ⟨1, 2, 0, 0⟩] : List En) = [⟨1, 1, 0, 0⟩, ⟨2, 1, 0, 0⟩]) = false from by decide] at hs
          refine hs.mono ?_
          clear hs
          rintro e X39 ⟨rfl, hb⟩
          have BX39 := Lib.hid (below_step BX38.out hb)
          have TWO_39 := Lib.hid (TWO_38.out.below hb)
          clear TWO_38
          have PAIR_39 := Lib.hid (PAIR_38.out.below hb)
          clear PAIR_38
          clear hb BX38
          go_wp2_with fail
          have hs := same_any _ _ 2 2 [⟨1, 1, 0, 0⟩, ⟨1, 2, 0, 0⟩] (([⟨1, 1, 0, 0⟩, ⟨1, 2, 0, 0⟩] : List En).take 1) X39 PAIR_39.out.ents (EnAt.take PAIR_39.out.ents 1) (by decide) (by decide)
          rw [show decide (([⟨1, 1, 0, 0⟩, ⟨1, 2, 0, 0⟩] : List En) = (([⟨1, 1, 0, 0⟩, ⟨1, 2, 0, 0⟩] : List En).take 1)) = false from by decide] at hs
          refine hs.mono ?_
          clear hs
          rintro e X40 ⟨rfl, hb⟩
          have BX40 := Lib.hid (below_step BX39.out hb)
          have TWO_40 := Lib.hid (TWO_39.out.below hb)
          clear TWO_39
          have PAIR_40 := Lib.hid (PAIR_39.out.below hb)
          clear PAIR_39
          clear hb BX39
          clear TWO_40
          clear PAIR_40
          go_wp2_with fail
          refine (epoch_any 1 X40).mono ?_
          rintro e X41 ⟨rfl, hb⟩
          have BX41 := Lib.hid (below_step BX40.out hb)
          clear hb BX40
          go_wp2_with fail
          refine (lease_any 1 X41).mono ?_
          rintro e X42 ⟨rfl, hb⟩
          have BX42 := Lib.hid (below_step BX41.out hb)
          clear hb BX41
          go_wp2_with fail
          refine (commit_any 1 1 X42).mono ?_
          rintro e X43 ⟨rfl, hb⟩
          have BX43 := Lib.hid (below_step BX42.out hb)
          clear hb BX42
          go_wp2_with fail
          refine (epoch_any 3 X43).mono ?_
          rintro e X44 ⟨rfl, hb⟩
          have BX44 := Lib.hid (below_step BX43.out hb)
          clear hb BX43
          go_wp2_with fail
          refine (lease_any 1 X44).mono ?_
          rintro e X45 ⟨rfl, hb⟩
          have BX45 := Lib.hid (below_step BX44.out hb)
          clear hb BX44
          go_wp2_with fail
          refine (commit_any 1 2 X45).mono ?_
          rintro e X46 ⟨rfl, hb⟩
          have BX46 := Lib.hid (below_step BX45.out hb)
          clear hb BX45
          go_wp2_with fail
          refine (lease_any 3 X46).mono ?_
          rintro e X47 ⟨rfl, hb⟩
          have BX47 := Lib.hid (below_step BX46.out hb)
          clear hb BX46
          obtain ⟨hb, hd⟩ := lit_step BX47.out (.cells #[.int .u64 1, .int .i64 1, .int .u64 0, .int .u64 0, .int .u64 1, .int .i64 2, .int .u64 0, .int .u64 0, .int .u64 1, .int .i64 3, .int .u64 1, .int .u64 1, .int .u64 3, .int .i64 1, .int .u64 0, .int .u64 0, .int .u64 1, .int .i64 2, .int .u64 0, .int .u64 0, .int .u64 1, .int .i64 3, .int .u64 1, .int .u64 2, .int .u64 3, .int .i64 2, .int .u64 0, .int .u64 0] 35)
          have hk := Blk.new X47 35 #[.int .u64 1, .int .i64 1, .int .u64 0, .int .u64 0, .int .u64 1, .int .i64 2, .int .u64 0, .int .u64 0, .int .u64 1, .int .i64 3, .int .u64 1, .int .u64 1, .int .u64 3, .int .i64 1, .int .u64 0, .int .u64 0, .int .u64 1, .int .i64 2, .int .u64 0, .int .u64 0, .int .u64 1, .int .i64 3, .int .u64 1, .int .u64 2, .int .u64 3, .int .i64 2, .int .u64 0, .int .u64 0]
          have HX48 : X47.alloc (.cells #[.int .u64 1, .int .i64 1, .int .u64 0, .int .u64 0, .int .u64 1, .int .i64 2, .int .u64 0, .int .u64 0, .int .u64 1, .int .i64 3, .int .u64 1, .int .u64 1, .int .u64 3, .int .i64 1, .int .u64 0, .int .u64 0, .int .u64 1, .int .i64 2, .int .u64 0, .int .u64 0, .int .u64 1, .int .i64 3, .int .u64 1, .int .u64 2, .int .u64 3, .int .i64 2, .int .u64 0, .int .u64 0] 35) = X47.alloc (.cells #[.int .u64 1, .int .i64 1, .int .u64 0, .int .u64 0, .int .u64 1, .int .i64 2, .int .u64 0, .int .u64 0, .int .u64 1, .int .i64 3, .int .u64 1, .int .u64 1, .int .u64 3, .int .i64 1, .int .u64 0, .int .u64 0, .int .u64 1, .int .i64 2, .int .u64 0, .int .u64 0, .int .u64 1, .int .i64 3, .int .u64 1, .int .u64 2, .int .u64 3, .int .i64 2, .int .u64 0, .int .u64 0] 35) := rfl
          obtain ⟨X48, hWX48⟩ : ∃ z, X47.alloc (.cells #[.int .u64 1, .int .i64 1, .int .u64 0, .int .u64 0, .int .u64 1, .int .i64 2, .int .u64 0, .int .u64 0, .int .u64 1, .int .i64 3, .int .u64 1, .int .u64 1, .int .u64 3, .int .i64 1, .int .u64 0, .int .u64 0, .int .u64 1, .int .i64 2, .int .u64 0, .int .u64 0, .int .u64 1, .int .i64 3, .int .u64 1, .int .u64 2, .int .u64 3, .int .i64 2, .int .u64 0, .int .u64 0] 35) = z := ⟨_, rfl⟩
          clear HX48
          rw [hWX48] at hb hd hk
          have BX48 := Lib.hid hb
          have ALL := Lib.hid (en_lit (l := [⟨1, 1, 0, 0⟩, ⟨1, 2, 0, 0⟩, ⟨1, 3, 1, 1⟩, ⟨3, 1, 0, 0⟩, ⟨1, 2, 0, 0⟩, ⟨1, 3, 1, 2⟩, ⟨3, 2, 0, 0⟩]) hk (by decide) (enB_all (by decide)))
          have HWX48 := Lib.hid hWX48
          clear hb hd hk hWX48 BX47
          go_wp2_with fail
          try rw [HWX48.out]
          clear HWX48
          refine (epoch_any 1 X48).mono ?_
          rintro e X49 ⟨rfl, hb⟩
          have BX49 := Lib.hid (below_step BX48.out hb)
          have ALL_49 := Lib.hid (ALL.out.below hb)
          clear ALL
          clear hb BX48
          go_wp2_with fail
          refine (guid_any 1 1 X49).mono ?_
          rintro e X50 ⟨rfl, hb⟩
          have BX50 := Lib.hid (below_step BX49.out hb)
          have ALL_50 := Lib.hid (ALL_49.out.below hb)
          clear ALL_49
          clear hb BX49
          go_wp2_with fail
          refine (commit_any 1 1 X50).mono ?_
          rintro e X51 ⟨rfl, hb⟩
          have BX51 := Lib.hid (below_step BX50.out hb)
          have ALL_51 := Lib.hid (ALL_50.out.below hb)
          clear ALL_50
          clear hb BX50
          go_wp2_with fail
          refine (commit_any 1 1 X51).mono ?_
          rintro e X52 ⟨rfl, hb⟩
          have BX52 := Lib.hid (below_step BX51.out hb)
          have ALL_52 := Lib.hid (ALL_51.out.below hb)
          clear ALL_51
          clear hb BX51
          go_wp2_with fail
          refine (commit_any 1 3 X52).mono ?_
          rintro e X53 ⟨rfl, hb⟩
          have BX53 := Lib.hid (below_step BX52.out hb)
          have ALL_53 := Lib.hid (ALL_52.out.below hb)
          clear ALL_52
          clear hb BX52
          go_wp2_with fail
          refine (commit_any 1 2 X53).mono ?_
          rintro e X54 ⟨rfl, hb⟩
          have BX54 := Lib.hid (below_step BX53.out hb)
          have ALL_54 := Lib.hid (ALL_53.out.below hb)
          clear ALL_53
          clear hb BX53
          obtain ⟨hb, hd⟩ := lit_step BX54.out (.cells #[.int .u64 1, .int .i64 1, .int .u64 0, .int .u64 0, .int .u64 2, .int .i64 3, .int .u64 1, .int .u64 1, .int .u64 1, .int .i64 3, .int .u64 1, .int .u64 1, .int .u64 1, .int .i64 3, .int .u64 1, .int .u64 1, .int .u64 1, .int .i64 3, .int .u64 1, .int .u64 3, .int .u64 1, .int .i64 3, .int .u64 1, .int .u64 2] 35)
          have hk := Blk.new X54 35 #[.int .u64 1, .int .i64 1, .int .u64 0, .int .u64 0, .int .u64 2, .int .i64 3, .int .u64 1, .int .u64 1, .int .u64 1, .int .i64 3, .int .u64 1, .int .u64 1, .int .u64 1, .int .i64 3, .int .u64 1, .int .u64 1, .int .u64 1, .int .i64 3, .int .u64 1, .int .u64 3, .int .u64 1, .int .i64 3, .int .u64 1, .int .u64 2]
          have HX55 : X54.alloc (.cells #[.int .u64 1, .int .i64 1, .int .u64 0, .int .u64 0, .int .u64 2, .int .i64 3, .int .u64 1, .int .u64 1, .int .u64 1, .int .i64 3, .int .u64 1, .int .u64 1, .int .u64 1, .int .i64 3, .int .u64 1, .int .u64 1, .int .u64 1, .int .i64 3, .int .u64 1, .int .u64 3, .int .u64 1, .int .i64 3, .int .u64 1, .int .u64 2] 35) = X54.alloc (.cells #[.int .u64 1, .int .i64 1, .int .u64 0, .int .u64 0, .int .u64 2, .int .i64 3, .int .u64 1, .int .u64 1, .int .u64 1, .int .i64 3, .int .u64 1, .int .u64 1, .int .u64 1, .int .i64 3, .int .u64 1, .int .u64 1, .int .u64 1, .int .i64 3, .int .u64 1, .int .u64 3, .int .u64 1, .int .i64 3, .int .u64 1, .int .u64 2] 35) := rfl
          obtain ⟨X55, hWX55⟩ : ∃ z, X54.alloc (.cells #[.int .u64 1, .int .i64 1, .int .u64 0, .int .u64 0, .int .u64 2, .int .i64 3, .int .u64 1, .int .u64 1, .int .u64 1, .int .i64 3, .int .u64 1, .int .u64 1, .int .u64 1, .int .i64 3, .int .u64 1, .int .u64 1, .int .u64 1, .int .i64 3, .int .u64 1, .int .u64 3, .int .u64 1, .int .i64 3, .int .u64 1, .int .u64 2] 35) = z := ⟨_, rfl⟩
          clear HX55
          rw [hWX55] at hb hd hk
          have BX55 := Lib.hid hb
          have OTH := Lib.hid (en_lit (l := [⟨1, 1, 0, 0⟩, ⟨2, 3, 1, 1⟩, ⟨1, 3, 1, 1⟩, ⟨1, 3, 1, 1⟩, ⟨1, 3, 1, 3⟩, ⟨1, 3, 1, 2⟩]) hk (by decide) (enB_all (by decide)))
          have HWX55 := Lib.hid hWX55
          have ALL_55 := Lib.hid (ALL_54.out.below hd)
          clear ALL_54
          clear hb hd hk hWX55 BX54
          go_wp2_with fail
          try rw [HWX55.out]
          clear HWX55
          have hf := fold_any _ _ [⟨1, 1, 0, 0⟩, ⟨1, 2, 0, 0⟩, ⟨1, 3, 1, 1⟩, ⟨3, 1, 0, 0⟩, ⟨1, 2, 0, 0⟩, ⟨1, 3, 1, 2⟩, ⟨3, 2, 0, 0⟩] 4 X55 ALL_55.out (by decide)
          rw [show lFold [⟨1, 1, 0, 0⟩, ⟨1, 2, 0, 0⟩, ⟨1, 3, 1, 1⟩, ⟨3, 1, 0, 0⟩, ⟨1, 2, 0, 0⟩, ⟨1, 3, 1, 2⟩, ⟨3, 2, 0, 0⟩] 4 = ⟨3, 1, false, [(1, 1)]⟩ from by decide +kernel] at hf
          refine hf.mono ?_
          clear hf
          rintro e X56 ⟨vX56, rfl, hv, hb⟩
          have FV1 := Lib.hid hv
          have BX56 := Lib.hid (below_step BX55.out hb)
          have ALL_56 := Lib.hid (ALL_55.out.below hb)
          clear ALL_55
          have OTH_56 := Lib.hid (OTH.out.below hb)
          clear OTH
          clear hb hv BX55
          go_wp2_with fail
          refine (guid_any 1 1 X56).mono ?_
          rintro e X57 ⟨rfl, hb⟩
          have BX57 := Lib.hid (below_step BX56.out hb)
          have ALL_57 := Lib.hid (ALL_56.out.below hb)
          clear ALL_56
          have OTH_57 := Lib.hid (OTH_56.out.below hb)
          clear OTH_56
          have FV1_57 := Lib.hid (FV1.out.below hb)
          clear FV1
          clear hb BX56
          obtain ⟨hb, hd⟩ := lit_step BX57.out (.cells #[.int .u64 1, .int .u64 1] 33)
          have hk := Blk.new X57 33 #[.int .u64 1, .int .u64 1]
          have HX58 : X57.alloc (.cells #[.int .u64 1, .int .u64 1] 33) = X57.alloc (.cells #[.int .u64 1, .int .u64 1] 33) := rfl
          obtain ⟨X58, hWX58⟩ : ∃ z, X57.alloc (.cells #[.int .u64 1, .int .u64 1] 33) = z := ⟨_, rfl⟩
          clear HX58
          rw [hWX58] at hb hd hk
          have BX58 := Lib.hid hb
          have GV1 := Lib.hid (gd_lit1 (a := 1) (b := 1) hk)
          have HWX58 := Lib.hid hWX58
          have ALL_58 := Lib.hid (ALL_57.out.below hd)
          clear ALL_57
          have OTH_58 := Lib.hid (OTH_57.out.below hd)
          clear OTH_57
          have FV1_58 := Lib.hid (FV1_57.out.below hd)
          clear FV1_57
          clear hb hd hk hWX58 BX57
          go_wp2_with fail
          try rw [HWX58.out]
          clear HWX58
          have hs := is_any vX56 ⟨3, 1, false, [(1, 1)]⟩ ⟨3, 1, false, [(1, 1)]⟩ _ 1 X58 FV1_58.out GV1.out (by decide) (by decide)
          rw [decide_eq_true rfl] at hs
          refine hs.mono ?_
          clear hs
          rintro e X59 ⟨rfl, hb⟩
          have BX59 := Lib.hid (below_step BX58.out hb)
          have ALL_59 := Lib.hid (ALL_58.out.below hb)
          clear ALL_58
          have OTH_59 := Lib.hid (OTH_58.out.below hb)
          clear OTH_58
          have FV1_59 := Lib.hid (FV1_58.out.below hb)
          clear FV1_58
          have GV1_59 := Lib.hid (GV1.out.below hb)
          clear GV1
          clear hb BX58
          clear FV1_59
          clear GV1_59
          go_wp2_with fail
          have hf := fold_any _ _ [⟨1, 1, 0, 0⟩, ⟨1, 2, 0, 0⟩, ⟨1, 3, 1, 1⟩, ⟨3, 1, 0, 0⟩, ⟨1, 2, 0, 0⟩, ⟨1, 3, 1, 2⟩, ⟨3, 2, 0, 0⟩] 3 X59 ALL_59.out (by decide)
          rw [show lFold [⟨1, 1, 0, 0⟩, ⟨1, 2, 0, 0⟩, ⟨1, 3, 1, 1⟩, ⟨3, 1, 0, 0⟩, ⟨1, 2, 0, 0⟩, ⟨1, 3, 1, 2⟩, ⟨3, 2, 0, 0⟩] 3 = ⟨1, 0, true, [(1, 1)]⟩ from by decide +kernel] at hf
          refine hf.mono ?_
          clear hf
          rintro e X60 ⟨vX60, rfl, hv, hb⟩
          have FV2 := Lib.hid hv
          have BX60 := Lib.hid (below_step BX59.out hb)
          have ALL_60 := Lib.hid (ALL_59.out.below hb)
          clear ALL_59
          have OTH_60 := Lib.hid (OTH_59.out.below hb)
          clear OTH_59
          clear hb hv BX59
          go_wp2_with fail
          refine (guid_any 1 1 X60).mono ?_
          rintro e X61 ⟨rfl, hb⟩
          have BX61 := Lib.hid (below_step BX60.out hb)
          have ALL_61 := Lib.hid (ALL_60.out.below hb)
          clear ALL_60
          have OTH_61 := Lib.hid (OTH_60.out.below hb)
          clear OTH_60
          have FV2_61 := Lib.hid (FV2.out.below hb)
          clear FV2
          clear hb BX60
          obtain ⟨hb, hd⟩ := lit_step BX61.out (.cells #[.int .u64 1, .int .u64 1] 33)
          have hk := Blk.new X61 33 #[.int .u64 1, .int .u64 1]
          have HX62 : X61.alloc (.cells #[.int .u64 1, .int .u64 1] 33) = X61.alloc (.cells #[.int .u64 1, .int .u64 1] 33) := rfl
          obtain ⟨X62, hWX62⟩ : ∃ z, X61.alloc (.cells #[.int .u64 1, .int .u64 1] 33) = z := ⟨_, rfl⟩
          clear HX62
          rw [hWX62] at hb hd hk
          have BX62 := Lib.hid hb
          have GV2 := Lib.hid (gd_lit1 (a := 1) (b := 1) hk)
          have HWX62 := Lib.hid hWX62
          have ALL_62 := Lib.hid (ALL_61.out.below hd)
          clear ALL_61
          have OTH_62 := Lib.hid (OTH_61.out.below hd)
          clear OTH_61
          have FV2_62 := Lib.hid (FV2_61.out.below hd)
          clear FV2_61
          clear hb hd hk hWX62 BX61
          go_wp2_with fail
          try rw [HWX62.out]
          clear HWX62
          have hs := is_any vX60 ⟨1, 0, true, [(1, 1)]⟩ ⟨1, 0, true, [(1, 1)]⟩ _ 1 X62 FV2_62.out GV2.out (by decide) (by decide)
          rw [decide_eq_true rfl] at hs
          refine hs.mono ?_
          clear hs
          rintro e X63 ⟨rfl, hb⟩
          have BX63 := Lib.hid (below_step BX62.out hb)
          have ALL_63 := Lib.hid (ALL_62.out.below hb)
          clear ALL_62
          have OTH_63 := Lib.hid (OTH_62.out.below hb)
          clear OTH_62
          have FV2_63 := Lib.hid (FV2_62.out.below hb)
          clear FV2_62
          have GV2_63 := Lib.hid (GV2.out.below hb)
          clear GV2
          clear hb BX62
          clear FV2_63
          clear GV2_63
          go_wp2_with fail
          have hf := fold_any _ _ [⟨1, 1, 0, 0⟩, ⟨1, 2, 0, 0⟩, ⟨1, 3, 1, 1⟩, ⟨3, 1, 0, 0⟩, ⟨1, 2, 0, 0⟩, ⟨1, 3, 1, 2⟩, ⟨3, 2, 0, 0⟩] 1 X63 ALL_63.out (by decide)
          rw [show lFold [⟨1, 1, 0, 0⟩, ⟨1, 2, 0, 0⟩, ⟨1, 3, 1, 1⟩, ⟨3, 1, 0, 0⟩, ⟨1, 2, 0, 0⟩, ⟨1, 3, 1, 2⟩, ⟨3, 2, 0, 0⟩] 1 = ⟨1, 0, false, []⟩ from by decide +kernel] at hf
          refine hf.mono ?_
          clear hf
          rintro e X64 ⟨vX64, rfl, hv, hb⟩
          have FV3 := Lib.hid hv
          have BX64 := Lib.hid (below_step BX63.out hb)
          have ALL_64 := Lib.hid (ALL_63.out.below hb)
          clear ALL_63
          have OTH_64 := Lib.hid (OTH_63.out.below hb)
          clear OTH_63
          clear hb hv BX63
          go_wp2_with fail
          have hs := is_any vX64 ⟨1, 0, false, []⟩ ⟨1, 0, false, []⟩ none 0 X64 FV3.out (GdAt.nil _ _) (by decide) (by decide)
          rw [decide_eq_true rfl] at hs
          refine hs.mono ?_
          clear hs
          rintro e X65 ⟨rfl, hb⟩
          have BX65 := Lib.hid (below_step BX64.out hb)
          have ALL_65 := Lib.hid (ALL_64.out.below hb)
          clear ALL_64
          have OTH_65 := Lib.hid (OTH_64.out.below hb)
          clear OTH_64
          have FV3_65 := Lib.hid (FV3.out.below hb)
          clear FV3
          clear hb BX64
          clear FV3_65
          go_wp2_with fail
          have hf := fold_any _ _ [⟨1, 1, 0, 0⟩, ⟨1, 2, 0, 0⟩, ⟨1, 3, 1, 1⟩, ⟨3, 1, 0, 0⟩, ⟨1, 2, 0, 0⟩, ⟨1, 3, 1, 2⟩, ⟨3, 2, 0, 0⟩] 7 X65 ALL_65.out (by decide)
          rw [show lFold [⟨1, 1, 0, 0⟩, ⟨1, 2, 0, 0⟩, ⟨1, 3, 1, 1⟩, ⟨3, 1, 0, 0⟩, ⟨1, 2, 0, 0⟩, ⟨1, 3, 1, 2⟩, ⟨3, 2, 0, 0⟩] 7 = ⟨3, 1, true, [(1, 1)]⟩ from by decide +kernel] at hf
          refine hf.mono ?_
          clear hf
          rintro e X66 ⟨vX66, rfl, hv, hb⟩
          have FV4 := Lib.hid hv
          have BX66 := Lib.hid (below_step BX65.out hb)
          have ALL_66 := Lib.hid (ALL_65.out.below hb)
          clear ALL_65
          have OTH_66 := Lib.hid (OTH_65.out.below hb)
          clear OTH_65
          clear hb hv BX65
          go_wp2_with fail
          refine (guid_any 1 1 X66).mono ?_
          rintro e X67 ⟨rfl, hb⟩
          have BX67 := Lib.hid (below_step BX66.out hb)
          have ALL_67 := Lib.hid (ALL_66.out.below hb)
          clear ALL_66
          have OTH_67 := Lib.hid (OTH_66.out.below hb)
          clear OTH_66
          have FV4_67 := Lib.hid (FV4.out.below hb)
          clear FV4
          clear hb BX66
          obtain ⟨hb, hd⟩ := lit_step BX67.out (.cells #[.int .u64 1, .int .u64 1] 33)
          have hk := Blk.new X67 33 #[.int .u64 1, .int .u64 1]
          have HX68 : X67.alloc (.cells #[.int .u64 1, .int .u64 1] 33) = X67.alloc (.cells #[.int .u64 1, .int .u64 1] 33) := rfl
          obtain ⟨X68, hWX68⟩ : ∃ z, X67.alloc (.cells #[.int .u64 1, .int .u64 1] 33) = z := ⟨_, rfl⟩
          clear HX68
          rw [hWX68] at hb hd hk
          have BX68 := Lib.hid hb
          have GV4 := Lib.hid (gd_lit1 (a := 1) (b := 1) hk)
          have HWX68 := Lib.hid hWX68
          have ALL_68 := Lib.hid (ALL_67.out.below hd)
          clear ALL_67
          have OTH_68 := Lib.hid (OTH_67.out.below hd)
          clear OTH_67
          have FV4_68 := Lib.hid (FV4_67.out.below hd)
          clear FV4_67
          clear hb hd hk hWX68 BX67
          go_wp2_with fail
          try rw [HWX68.out]
          clear HWX68
          have hs := is_any vX66 ⟨3, 1, true, [(1, 1)]⟩ ⟨3, 1, true, [(1, 1)]⟩ _ 1 X68 FV4_68.out GV4.out (by decide) (by decide)
          rw [decide_eq_true rfl] at hs
          refine hs.mono ?_
          clear hs
          rintro e X69 ⟨rfl, hb⟩
          have BX69 := Lib.hid (below_step BX68.out hb)
          have ALL_69 := Lib.hid (ALL_68.out.below hb)
          clear ALL_68
          have OTH_69 := Lib.hid (OTH_68.out.below hb)
          clear OTH_68
          have FV4_69 := Lib.hid (FV4_68.out.below hb)
          clear FV4_68
          have GV4_69 := Lib.hid (GV4.out.below hb)
          clear GV4
          clear hb BX68
          clear FV4_69
          clear GV4_69
          go_wp2_with fail
          have hf := fold_any _ _ [⟨1, 1, 0, 0⟩, ⟨1, 2, 0, 0⟩, ⟨1, 3, 1, 1⟩, ⟨3, 1, 0, 0⟩, ⟨1, 2, 0, 0⟩, ⟨1, 3, 1, 2⟩, ⟨3, 2, 0, 0⟩] 6 X69 ALL_69.out (by decide)
          rw [show lFold [⟨1, 1, 0, 0⟩, ⟨1, 2, 0, 0⟩, ⟨1, 3, 1, 1⟩, ⟨3, 1, 0, 0⟩, ⟨1, 2, 0, 0⟩, ⟨1, 3, 1, 2⟩, ⟨3, 2, 0, 0⟩] 6 = ⟨3, 1, false, [(1, 1)]⟩ from by decide +kernel] at hf
          refine hf.mono ?_
          clear hf
          rintro e X70 ⟨vX70, rfl, hv, hb⟩
          have FV5 := Lib.hid hv
          have BX70 := Lib.hid (below_step BX69.out hb)
          have ALL_70 := Lib.hid (ALL_69.out.below hb)
          clear ALL_69
          have OTH_70 := Lib.hid (OTH_69.out.below hb)
          clear OTH_69
          clear hb hv BX69
          go_wp2_with fail
          refine (guid_any 1 1 X70).mono ?_
          rintro e X71 ⟨rfl, hb⟩
          have BX71 := Lib.hid (below_step BX70.out hb)
          have ALL_71 := Lib.hid (ALL_70.out.below hb)
          clear ALL_70
          have OTH_71 := Lib.hid (OTH_70.out.below hb)
          clear OTH_70
          have FV5_71 := Lib.hid (FV5.out.below hb)
          clear FV5
          clear hb BX70
          obtain ⟨hb, hd⟩ := lit_step BX71.out (.cells #[.int .u64 1, .int .u64 1] 33)
          have hk := Blk.new X71 33 #[.int .u64 1, .int .u64 1]
          have HX72 : X71.alloc (.cells #[.int .u64 1, .int .u64 1] 33) = X71.alloc (.cells #[.int .u64 1, .int .u64 1] 33) := rfl
          obtain ⟨X72, hWX72⟩ : ∃ z, X71.alloc (.cells #[.int .u64 1, .int .u64 1] 33) = z := ⟨_, rfl⟩
          clear HX72
          rw [hWX72] at hb hd hk
          have BX72 := Lib.hid hb
          have GV5 := Lib.hid (gd_lit1 (a := 1) (b := 1) hk)
          have HWX72 := Lib.hid hWX72
          have ALL_72 := Lib.hid (ALL_71.out.below hd)
          clear ALL_71
          have OTH_72 := Lib.hid (OTH_71.out.below hd)
          clear OTH_71
          have FV5_72 := Lib.hid (FV5_71.out.below hd)
          clear FV5_71
          clear hb hd hk hWX72 BX71
          go_wp2_with fail
          try rw [HWX72.out]
          clear HWX72
          have hs := is_any vX70 ⟨3, 1, false, [(1, 1)]⟩ ⟨3, 1, false, [(1, 1)]⟩ _ 1 X72 FV5_72.out GV5.out (by decide) (by decide)
          rw [decide_eq_true rfl] at hs
          refine hs.mono ?_
          clear hs
          rintro e X73 ⟨rfl, hb⟩
          have BX73 := Lib.hid (below_step BX72.out hb)
          have ALL_73 := Lib.hid (ALL_72.out.below hb)
          clear ALL_72
          have OTH_73 := Lib.hid (OTH_72.out.below hb)
          clear OTH_72
          have FV5_73 := Lib.hid (FV5_72.out.below hb)
          clear FV5_72
          have GV5_73 := Lib.hid (GV5.out.below hb)
          clear GV5
          clear hb BX72
          clear FV5_73
          clear GV5_73
          go_wp2_with fail
          have hf := fold_any _ _ [⟨1, 1, 0, 0⟩, ⟨1, 2, 0, 0⟩, ⟨1, 3, 1, 1⟩, ⟨3, 1, 0, 0⟩, ⟨1, 2, 0, 0⟩, ⟨1, 3, 1, 2⟩, ⟨3, 2, 0, 0⟩] 99 X73 ALL_73.out (by decide)
          rw [show lFold [⟨1, 1, 0, 0⟩, ⟨1, 2, 0, 0⟩, ⟨1, 3, 1, 1⟩, ⟨3, 1, 0, 0⟩, ⟨1, 2, 0, 0⟩, ⟨1, 3, 1, 2⟩, ⟨3, 2, 0, 0⟩] 99 = ⟨3, 1, true, [(1, 1)]⟩ from by decide +kernel] at hf
          refine hf.mono ?_
          clear hf
          rintro e X74 ⟨vX74, rfl, hv, hb⟩
          have FV6 := Lib.hid hv
          have BX74 := Lib.hid (below_step BX73.out hb)
          have ALL_74 := Lib.hid (ALL_73.out.below hb)
          clear ALL_73
          have OTH_74 := Lib.hid (OTH_73.out.below hb)
          clear OTH_73
          clear hb hv BX73
          go_wp2_with fail
          refine (guid_any 1 1 X74).mono ?_
          rintro e X75 ⟨rfl, hb⟩
          have BX75 := Lib.hid (below_step BX74.out hb)
          have ALL_75 := Lib.hid (ALL_74.out.below hb)
          clear ALL_74
          have OTH_75 := Lib.hid (OTH_74.out.below hb)
          clear OTH_74
          have FV6_75 := Lib.hid (FV6.out.below hb)
          clear FV6
          clear hb BX74
          obtain ⟨hb, hd⟩ := lit_step BX75.out (.cells #[.int .u64 1, .int .u64 1] 33)
          have hk := Blk.new X75 33 #[.int .u64 1, .int .u64 1]
          have HX76 : X75.alloc (.cells #[.int .u64 1, .int .u64 1] 33) = X75.alloc (.cells #[.int .u64 1, .int .u64 1] 33) := rfl
          obtain ⟨X76, hWX76⟩ : ∃ z, X75.alloc (.cells #[.int .u64 1, .int .u64 1] 33) = z := ⟨_, rfl⟩
          clear HX76
          rw [hWX76] at hb hd hk
          have BX76 := Lib.hid hb
          have GV6 := Lib.hid (gd_lit1 (a := 1) (b := 1) hk)
          have HWX76 := Lib.hid hWX76
          have ALL_76 := Lib.hid (ALL_75.out.below hd)
          clear ALL_75
          have OTH_76 := Lib.hid (OTH_75.out.below hd)
          clear OTH_75
          have FV6_76 := Lib.hid (FV6_75.out.below hd)
          clear FV6_75
          clear hb hd hk hWX76 BX75
          go_wp2_with fail
          try rw [HWX76.out]
          clear HWX76
          have hs := is_any vX74 ⟨3, 1, true, [(1, 1)]⟩ ⟨3, 1, true, [(1, 1)]⟩ _ 1 X76 FV6_76.out GV6.out (by decide) (by decide)
          rw [decide_eq_true rfl] at hs
          refine hs.mono ?_
          clear hs
          rintro e X77 ⟨rfl, hb⟩
          have BX77 := Lib.hid (below_step BX76.out hb)
          have ALL_77 := Lib.hid (ALL_76.out.below hb)
          clear ALL_76
          have OTH_77 := Lib.hid (OTH_76.out.below hb)
          clear OTH_76
          have FV6_77 := Lib.hid (FV6_76.out.below hb)
          clear FV6_76
          have GV6_77 := Lib.hid (GV6.out.below hb)
          clear GV6
          clear hb BX76
          clear FV6_77
          clear GV6_77
          go_wp2_with fail
          have hf := fold_any _ _ [⟨1, 1, 0, 0⟩, ⟨1, 2, 0, 0⟩, ⟨1, 3, 1, 1⟩, ⟨3, 1, 0, 0⟩, ⟨1, 2, 0, 0⟩, ⟨1, 3, 1, 2⟩, ⟨3, 2, 0, 0⟩] (-1) X77 ALL_77.out (by decide)
          rw [show lFold [⟨1, 1, 0, 0⟩, ⟨1, 2, 0, 0⟩, ⟨1, 3, 1, 1⟩, ⟨3, 1, 0, 0⟩, ⟨1, 2, 0, 0⟩, ⟨1, 3, 1, 2⟩, ⟨3, 2, 0, 0⟩] (-1) = ⟨0, 0, false, []⟩ from by decide +kernel] at hf
          refine hf.mono ?_
          clear hf
          rintro e X78 ⟨vX78, rfl, hv, hb⟩
          have FV7 := Lib.hid hv
          have BX78 := Lib.hid (below_step BX77.out hb)
          have ALL_78 := Lib.hid (ALL_77.out.below hb)
          clear ALL_77
          have OTH_78 := Lib.hid (OTH_77.out.below hb)
          clear OTH_77
          clear hb hv BX77
          go_wp2_with fail
          have hs := is_any vX78 ⟨0, 0, false, []⟩ ⟨0, 0, false, []⟩ none 0 X78 FV7.out (GdAt.nil _ _) (by decide) (by decide)
          rw [decide_eq_true rfl] at hs
          refine hs.mono ?_
          clear hs
          rintro e X79 ⟨rfl, hb⟩
          have BX79 := Lib.hid (below_step BX78.out hb)
          have ALL_79 := Lib.hid (ALL_78.out.below hb)
          clear ALL_78
          have OTH_79 := Lib.hid (OTH_78.out.below hb)
          clear OTH_78
          have FV7_79 := Lib.hid (FV7.out.below hb)
          clear FV7
          clear hb BX78
          clear FV7_79
          go_wp2_with fail
          have hf := fold_any _ _ [⟨1, 1, 0, 0⟩, ⟨2, 3, 1, 1⟩, ⟨1, 3, 1, 1⟩, ⟨1, 3, 1, 1⟩, ⟨1, 3, 1, 3⟩, ⟨1, 3, 1, 2⟩] 6 X79 OTH_79.out (by decide)
          rw [show lFold [⟨1, 1, 0, 0⟩, ⟨2, 3, 1, 1⟩, ⟨1, 3, 1, 1⟩, ⟨1, 3, 1, 1⟩, ⟨1, 3, 1, 3⟩, ⟨1, 3, 1, 2⟩] 6 = ⟨1, 0, false, [(1, 1), (1, 3)]⟩ from by decide +kernel] at hf
          refine hf.mono ?_
          clear hf
          rintro e X80 ⟨vX80, rfl, hv, hb⟩
          have FV8 := Lib.hid hv
          have BX80 := Lib.hid (below_step BX79.out hb)
          have ALL_80 := Lib.hid (ALL_79.out.below hb)
          clear ALL_79
          have OTH_80 := Lib.hid (OTH_79.out.below hb)
          clear OTH_79
          clear hb hv BX79
          go_wp2_with fail
          refine (guid_any 1 1 X80).mono ?_
          rintro e X81 ⟨rfl, hb⟩
          have BX81 := Lib.hid (below_step BX80.out hb)
          have ALL_81 := Lib.hid (ALL_80.out.below hb)
          clear ALL_80
          have OTH_81 := Lib.hid (OTH_80.out.below hb)
          clear OTH_80
          have FV8_81 := Lib.hid (FV8.out.below hb)
          clear FV8
          clear hb BX80
          go_wp2_with fail
          refine (guid_any 1 3 X81).mono ?_
          rintro e X82 ⟨rfl, hb⟩
          have BX82 := Lib.hid (below_step BX81.out hb)
          have ALL_82 := Lib.hid (ALL_81.out.below hb)
          clear ALL_81
          have OTH_82 := Lib.hid (OTH_81.out.below hb)
          clear OTH_81
          have FV8_82 := Lib.hid (FV8_81.out.below hb)
          clear FV8_81
          clear hb BX81
          obtain ⟨hb, hd⟩ := lit_step BX82.out (.cells #[.int .u64 1, .int .u64 1, .int .u64 1, .int .u64 3] 33)
          have hk := Blk.new X82 33 #[.int .u64 1, .int .u64 1, .int .u64 1, .int .u64 3]
          have HX83 : X82.alloc (.cells #[.int .u64 1, .int .u64 1, .int .u64 1, .int .u64 3] 33) = X82.alloc (.cells #[.int .u64 1, .int .u64 1, .int .u64 1, .int .u64 3] 33) := rfl
          obtain ⟨X83, hWX83⟩ : ∃ z, X82.alloc (.cells #[.int .u64 1, .int .u64 1, .int .u64 1, .int .u64 3] 33) = z := ⟨_, rfl⟩
          clear HX83
          rw [hWX83] at hb hd hk
          have BX83 := Lib.hid hb
          have GV8 := Lib.hid (gd_lit2 (a := 1) (b := 1) (c := 1) (d := 3) hk)
          have HWX83 := Lib.hid hWX83
          have ALL_83 := Lib.hid (ALL_82.out.below hd)
          clear ALL_82
          have OTH_83 := Lib.hid (OTH_82.out.below hd)
          clear OTH_82
          have FV8_83 := Lib.hid (FV8_82.out.below hd)
          clear FV8_82
          clear hb hd hk hWX83 BX82
          go_wp2_with fail
          try rw [HWX83.out]
          clear HWX83
          have hs := is_any vX80 ⟨1, 0, false, [(1, 1), (1, 3)]⟩ ⟨1, 0, false, [(1, 1), (1, 3)]⟩ _ 2 X83 FV8_83.out GV8.out (by decide) (by decide)
          rw [decide_eq_true rfl] at hs
          refine hs.mono ?_
          clear hs
          rintro e X84 ⟨rfl, hb⟩
          have BX84 := Lib.hid (below_step BX83.out hb)
          have ALL_84 := Lib.hid (ALL_83.out.below hb)
          clear ALL_83
          have OTH_84 := Lib.hid (OTH_83.out.below hb)
          clear OTH_83
          have FV8_84 := Lib.hid (FV8_83.out.below hb)
          clear FV8_83
          have GV8_84 := Lib.hid (GV8.out.below hb)
          clear GV8
          clear hb BX83
          clear FV8_84
          clear GV8_84
          go_wp2_with fail
          refine (works_any X84).mono ?_
          rintro e X85 ⟨rfl, hb⟩
          have BX85 := Lib.hid (below_step BX84.out hb)
          clear hb
          go_wp2_with fail
          go_ret
          exact ⟨rfl, BX85.out⟩
end Go.Proofs.Ytnnjcabgaefhcaa.lg

