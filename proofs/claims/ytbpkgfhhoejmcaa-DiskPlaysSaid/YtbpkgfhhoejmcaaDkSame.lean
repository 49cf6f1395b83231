/- What same of the statements does. -/
import Derived.Test.YtbpkgfhhoejmcaaRkTwo
import Derived.Test.YtbpkgfhhoejmcaaRkRead
import Derived.Test.YtbpkgfhhoejmcaaSlotsF
import Derived.Test.YtbpkgfhhoejmcaaSlotsI
namespace Go.Proofs.Ytbpkgfhhoejmcaa.dk
open Go Go.RowKit

/-- What the operations of the compare yield. -/
def SameG (p r : Nat) (s : ByteArray) (er at_ at1 : Int) (d : DD) : Nat → Value → World → Prop
  | 0, v, _ => v = .string s
  | 1, v, _ => v = .string s
  | 2, v, _ => v = .bool true
  | 3, v, _ => v = .bool true
  | 4, v, _ => v = .int .i64 er
  | 5, v, _ => v = .int .i64 er
  | 6, v, _ => v = .bool true
  | 7, v, _ => v = .bool true
  | 8, v, _ => v = .bool true
  | 9, v, _ => v = .pointer (some ⟨p, 0, none⟩)
  | 10, v, _ => v = .bool d.on
  | 11, v, _ => v = .pointer (some ⟨r, 0, none⟩)
  | 12, v, _ => v = .pointer (some ⟨r, 0, none⟩)
  | 13, v, _ => v = .pointer (some ⟨r, 7, none⟩)
  | 14, v, _ => v = .bool d.on
  | 15, v, _ => v = .bool true
  | 16, v, _ => v = .bool true
  | 17, v, _ => v = .bool true
  | 18, v, _ => v = .pointer (some ⟨p, 0, none⟩)
  | 19, v, _ => v = .int .i64 (d.used : Int)
  | 20, v, _ => v = .pointer (some ⟨r, 0, none⟩)
  | 21, v, _ => v = .int .i64 (d.used : Int)
  | 22, v, _ => v = .bool true
  | 23, v, _ => v = .bool true
  | 24, v, _ => v = .bool true
  | 25, v, _ => v = .pointer (some ⟨p, 0, none⟩)
  | 26, v, _ => v = .int .i64 (d.n : Int)
  | 27, v, _ => v = .pointer (some ⟨r, 0, none⟩)
  | 28, v, _ => v = .pointer (some ⟨r, 0, none⟩)
  | 29, v, _ => v = .pointer (some ⟨r, 0, none⟩)
  | 30, v, _ => v = .int .i64 (d.n : Int)
  | 31, v, _ => v = .bool true
  | 32, v, _ => v = .bool true
  | 33, v, _ => v = .bool true
  | 34, v, _ => v = .pointer (some ⟨p, 0, none⟩)
  | 35, v, _ => v = .int .i64 at_
  | 36, v, _ => v = .int .i64 at_
  | 37, v, _ => v = .int .i64 at_
  | 38, v, _ => v = .int .i64 at1
  | 39, v, W => ∃ b, v = .slice (some ⟨b, 0, none⟩) 3 3 ∧ b < W.heap.size ∧ IntsAt W (some ⟨b, 0, none⟩) [at_, at_, at1]
  | 40, v, _ => v = .bool (d.fits [at_, at_, at1])
  | 41, v, _ => v = .pointer (some ⟨r, 0, none⟩)
  | 42, v, _ => v = .int .i64 at_
  | 43, v, _ => v = .int .i64 at_
  | 44, v, _ => v = .int .i64 at_
  | 45, v, _ => v = .int .i64 at1
  | 46, v, W => ∃ b, v = .slice (some ⟨b, 0, none⟩) 3 3 ∧ b < W.heap.size ∧ IntsAt W (some ⟨b, 0, none⟩) [at_, at_, at1]
  | 47, v, _ => v = .bool (d.fits [at_, at_, at1])
  | 48, v, _ => v = .bool true
  | 49, v, _ => v = .bool true
  | 50, v, _ => v = .bool true
  | _, _, _ => True

theorem ints_below {w w' : World} {A : Option Addr} {zs : List Int} (h : IntsAt w A zs) (hb : Below w.heap.size w w') : IntsAt w' A zs := fun i hi => by
  obtain ⟨b, o, h1, h2, h3, h4, h5⟩ := h i hi
  exact ⟨b, o, h1, Nat.lt_of_lt_of_le h2 hb.size, by rw [hb.cell (p := ⟨b, o + i, none⟩) h2]; exact h3, h4, h5⟩

theorem ints_three (w : World) (x y : Int) (ha0 : -9223372036854775808 ≤ x) (ha1 : x ≤ 9223372036854775807) (hb0 : -9223372036854775808 ≤ y) (hb1 : y ≤ 9223372036854775807) : IntsAt (w.alloc (.cells #[.int .i64 x, .int .i64 x, .int .i64 y] 3)) (some ⟨w.heap.size, 0, none⟩) [x, x, y] := by
  intro i h
  have hB := Blk.new w 3 #[.int .i64 x, .int .i64 x, .int .i64 y]
  match i, h with
  | 0, _ => exact ⟨w.heap.size, 0, rfl, by simp, hB.cell 0, ha0, ha1⟩
  | 1, _ => exact ⟨w.heap.size, 0, rfl, by simp, hB.cell 1, ha0, ha1⟩
  | 2, _ => exact ⟨w.heap.size, 0, rfl, by simp, hB.cell 2, hb0, hb1⟩
  | i + 3, h => exact absurd h (by simp only [List.length_cons, List.length_nil]; omega)

theorem SameG_mono (p r : Nat) (s : ByteArray) (er at_ at1 : Int) (d : DD) (i : Nat) (v : Value) (w w' : World) (hi : i < 51) (h : SameG p r s er at_ at1 d i v w) (hb : Below w.heap.size w w') : SameG p r s er at_ at1 d i v w' := by
  match i, hi, h with
  | 0, _, h | 1, _, h | 2, _, h | 3, _, h | 4, _, h | 5, _, h | 6, _, h | 7, _, h | 8, _, h | 9, _, h | 10, _, h | 11, _, h | 12, _, h | 13, _, h | 14, _, h | 15, _, h | 16, _, h | 17, _, h | 18, _, h | 19, _, h | 20, _, h | 21, _, h | 22, _, h | 23, _, h | 24, _, h | 25, _, h | 26, _, h | 27, _, h | 28, _, h | 29, _, h | 30, _, h | 31, _, h | 32, _, h | 33, _, h | 34, _, h | 35, _, h | 36, _, h | 37, _, h | 38, _, h | 40, _, h | 41, _, h | 42, _, h | 43, _, h | 44, _, h | 45, _, h | 47, _, h | 48, _, h | 49, _, h | 50, _, h => exact h
  | 39, _, ⟨b, h1, h2, h3⟩ => exact ⟨b, h1, Nat.lt_of_lt_of_le h2 hb.size, ints_below h3 hb⟩
  | 46, _, ⟨b, h1, h2, h3⟩ => exact ⟨b, h1, Nat.lt_of_lt_of_le h2 hb.size, ints_below h3 hb⟩
  | j + 51, hi, _ => exact absurd hi (by omega)

set_option maxRecDepth 100000 in
set_option maxHeartbeats 6400000 in
theorem same_any {most : Nat} {w : World} {B p r : Nat} {d : DD} (h : Both most w B p r d d) (at_ : Int) (ha0 : -9223372036854775808 ≤ at_) (ha1 : at_ ≤ 9223372036854775807) :
    Calls Try.prog 15 #[.pointer (some ⟨p, 0, none⟩), .pointer (some ⟨r, 0, none⟩), .int .i64 at_] w (okB true w) := by
  obtain ⟨own, own2, hd, hr, _⟩ := h
  have HD := Lib.hid hd
  have HR := Lib.hid hr
  obtain ⟨x, er, hx⟩ : ∃ x er, d.read at_ = (x, er) := ⟨_, _, rfl⟩
  obtain ⟨at1, hat1⟩ : ∃ y, IntKind.i64.wrap (at_ + 1) = y := ⟨_, rfl⟩
  have HX := Lib.hid hx
  have HS1 := Lib.hid hat1
  have hbd : -9223372036854775808 ≤ at1 ∧ at1 ≤ 9223372036854775807 := by
    rw [← hat1]
    rw [IntKind.wrap_i64]
    omega
  obtain ⟨hb0, hb1⟩ := hbd
  obtain ⟨s, hs⟩ : ∃ s, Hid (str x = s) := ⟨_, rfl⟩
  clear hd hr hx hat1
  go_enter Try.func15, Try.ntmps15
  go_wp2_with fail
  refine (read_in (B := 0) ⟨own, HD.out, fun _ _ => Nat.zero_le _⟩ at_ x s hs.out er HX.out).mono ?_
  rintro e W1 ⟨rfl, _, b1⟩
  have B1 := Lib.hid b1
  clear b1
  go_wp2_with fail
  refine (rread_any (HR.out.below B1.out) at_).mono ?_
  rintro e W2 ⟨rfl, b2⟩
  rw [HX.out]
  dsimp only
  rw [hs.out]
  have B2 := Lib.hid (below_step B1.out b2)
  clear b2 B1
  go_wp2_with fail
  refine wp_region_inv (by kernel_rfl) [23, 24, 25, 26, 27, 28, 29, 30, 31, 32, 33, 34, 35, 36, 37, 38, 39, 40, 41, 42, 43, 44, 45, 46, 47, 48, 49, 50, 51, 52, 53, 54, 55, 56, 57, 58, 59, 60, 61, 62, 63, 64, 65, 66, 67, 68, 69, 70, 71, 72, 6] (by kernel_rfl) (fun L vs W => Below w.heap.size w W ∧ ∀ i, L i = true → i < 51 → SameG p r s er at_ at1 d i (vs i) W) ⟨B2.out.drew, fun i hi => by cases hi⟩ ?_ ?_ ?_
  · intro i o L vs ρ W ho hli haft hρ hgd hI
    obtain ⟨hb, hG'⟩ := hI
    have hG : ∀ j, L j = true → SameG p r s er at_ at1 d j (vs j) W := fun j hj => by
      by_cases h51 : j < 51
      · exact hG' j hj h51
      · match j, h51 with
        | j + 51, _ => exact trivial
    have hi51 : i < 51 := (Array.getElem?_eq_some_iff.1 ho).1
    have hc := hρ.const
    have hfn := hρ.fn
    have next : ∀ v W', Below W.heap.size W W' → SameG p r s er at_ at1 d i v W' → Below w.heap.size w W' ∧ ∀ j, updB L i j = true → j < 51 → SameG p r s er at_ at1 d j (updV vs i v j) W' := fun v W' h1 h2 => by
      refine ⟨below_step hb h1, fun j hj h51 => ?_⟩
      by_cases hji : j = i
      · subst hji
        simpa [updV] using h2
      · simp only [updB, if_neg hji] at hj
        simpa [updV, hji] using SameG_mono p r s er at_ at1 d j _ W W' h51 (hG' j hj h51) h1
    have hWd := HD.out.below hb
    have hRd := HR.out.below hb
    obtain ⟨_, m, v, hW1⟩ := hWd
    have hWd := HD.out.below hb
    obtain ⟨_, gb, cb, gn, cn, v2, hR1⟩ := hRd
    have hRd := HR.out.below hb
    obtain ⟨l00, _, _, _, _, _, _, l70⟩ := blk8 hR1.blk
    have hsum := HS1.out
    rcases i with _ | _ | _ | _ | _ | _ | _ | _ | _ | _ | _ | _ | _ | _ | _ | _ | _ | _ | _ | _ | _ | _ | _ | _ | _ | _ | _ | _ | _ | _ | _ | _ | _ | _ | _ | _ | _ | _ | _ | _ | _ | _ | _ | _ | _ | _ | _ | _ | _ | _ | _ | i
    all_goals (first | omega | skip)
    all_goals simp only [List.getElem?_toArray, List.getElem?_cons_zero, List.getElem?_cons_succ, Option.some.injEq] at ho
    all_goals subst ho
    · have o7 : ρ (.tmp 7) = .string s := hρ.out 7 rfl
      exact stepTo_value (w' := W) (by unfold execOp; simp only [o7, hc]; go_simp) (next _ _ (Below.refl _ _) rfl)
    · have o9 : ρ (.tmp 9) = .string s := hρ.out 9 rfl
      exact stepTo_value (w' := W) (by unfold execOp; simp only [o9, hc]; go_simp) (next _ _ (Below.refl _ _) rfl)
    · have g23 : SameG p r s er at_ at1 d 0 (vs 0) W := hG 0 (haft 0 (by kernel_rfl))
      have s23 : ρ (.tmp 23) = .string s := (hρ.at_ 23 0 rfl).trans g23
      have g24 : SameG p r s er at_ at1 d 1 (vs 1) W := hG 1 (haft 1 (by kernel_rfl))
      have s24 : ρ (.tmp 24) = .string s := (hρ.at_ 24 1 rfl).trans g24
      exact stepTo_value (w' := W) (by unfold execOp; simp only [s23, s24, hc]; go_simp) (next _ _ (Below.refl _ _) rfl)
    · have g25 : SameG p r s er at_ at1 d 2 (vs 2) W := hG 2 (haft 2 (by kernel_rfl))
      have s25 : ρ (.tmp 25) = .bool true := (hρ.at_ 25 2 rfl).trans g25
      exact stepTo_value (w' := W) (by unfold execOp; simp only [s25, hc]; go_simp) (next _ _ (Below.refl _ _) rfl)
    · have o8 : ρ (.tmp 8) = .int .i64 er := hρ.out 8 rfl
      exact stepTo_value (w' := W) (by unfold execOp; simp only [o8, hc]; go_simp) (next _ _ (Below.refl _ _) rfl)
    · have o10 : ρ (.tmp 10) = .int .i64 er := hρ.out 10 rfl
      exact stepTo_value (w' := W) (by unfold execOp; simp only [o10, hc]; go_simp) (next _ _ (Below.refl _ _) rfl)
    · have g27 : SameG p r s er at_ at1 d 4 (vs 4) W := hG 4 (haft 4 (by kernel_rfl))
      have s27 : ρ (.tmp 27) = .int .i64 er := (hρ.at_ 27 4 rfl).trans g27
      have g28 : SameG p r s er at_ at1 d 5 (vs 5) W := hG 5 (haft 5 (by kernel_rfl))
      have s28 : ρ (.tmp 28) = .int .i64 er := (hρ.at_ 28 5 rfl).trans g28
      exact stepTo_value (w' := W) (by unfold execOp; simp only [s27, s28, hc]; go_simp) (next _ _ (Below.refl _ _) rfl)
    · have g26 : SameG p r s er at_ at1 d 3 (vs 3) W := hG 3 (haft 3 (by kernel_rfl))
      have s26 : ρ (.tmp 26) = .bool true := (hρ.at_ 26 3 rfl).trans g26
      have g29 : SameG p r s er at_ at1 d 6 (vs 6) W := hG 6 (haft 6 (by kernel_rfl))
      have s29 : ρ (.tmp 29) = .bool true := (hρ.at_ 29 6 rfl).trans g29
      exact stepTo_value (w' := W) (by unfold execOp; simp only [s26, s29, hc]; go_simp) (next _ _ (Below.refl _ _) rfl)
    · have g30 : SameG p r s er at_ at1 d 7 (vs 7) W := hG 7 (haft 7 (by kernel_rfl))
      have s30 : ρ (.tmp 30) = .bool true := (hρ.at_ 30 7 rfl).trans g30
      exact stepTo_value (w' := W) (by unfold execOp; simp only [s30, hc]; go_simp) (next _ _ (Below.refl _ _) rfl)
    · have o0 : ρ (.tmp 0) = .pointer (some ⟨p, 0, none⟩) := hρ.out 0 rfl
      exact stepTo_value (w' := W) (by unfold execOp; simp only [o0, hc]; go_simp) (next _ _ (Below.refl _ _) rfl)
    · have g32 : SameG p r s er at_ at1 d 9 (vs 9) W := hG 9 (haft 9 (by kernel_rfl))
      have s32 : ρ (.tmp 32) = .pointer (some ⟨p, 0, none⟩) := (hρ.at_ 32 9 rfl).trans g32
      refine stepTo_enter (f := 21) (args := #[.pointer (some ⟨p, 0, none⟩)]) (w' := W) (by unfold execOp; simp only [hfn, s32]; go_simp) ((on_any hW1).mono ?_)
      rintro x W' ⟨rfl, rfl⟩
      exact ⟨_, rfl, next _ _ (Below.refl _ _) rfl⟩
    · have o1 : ρ (.tmp 1) = .pointer (some ⟨r, 0, none⟩) := hρ.out 1 rfl
      exact stepTo_value (w' := W) (by unfold execOp; simp only [o1, hc]; go_simp) (next _ _ (Below.refl _ _) rfl)
    · have g34 : SameG p r s er at_ at1 d 11 (vs 11) W := hG 11 (haft 11 (by kernel_rfl))
      have s34 : ρ (.tmp 34) = .pointer (some ⟨r, 0, none⟩) := (hρ.at_ 34 11 rfl).trans g34
      exact stepTo_value (w' := W) (by unfold execOp; simp only [s34, hc]; go_simp) (next _ _ (Below.refl _ _) rfl)
    · have g35 : SameG p r s er at_ at1 d 12 (vs 12) W := hG 12 (haft 12 (by kernel_rfl))
      have s35 : ρ (.tmp 35) = .pointer (some ⟨r, 0, none⟩) := (hρ.at_ 35 12 rfl).trans g35
      exact stepTo_value (w' := W) (by unfold execOp; simp only [s35, hc]; go_simp) (next _ _ (Below.refl _ _) rfl)
    · have g36 : SameG p r s er at_ at1 d 13 (vs 13) W := hG 13 (haft 13 (by kernel_rfl))
      have s36 : ρ (.tmp 36) = .pointer (some ⟨r, 7, none⟩) := (hρ.at_ 36 13 rfl).trans g36
      have l7 := l70
      exact stepTo_value (w' := W) (by unfold execOp; simp only [s36]; go_simp) (next _ _ (Below.refl _ _) rfl)
    · have g33 : SameG p r s er at_ at1 d 10 (vs 10) W := hG 10 (haft 10 (by kernel_rfl))
      have s33 : ρ (.tmp 33) = .bool d.on := (hρ.at_ 33 10 rfl).trans g33
      have g37 : SameG p r s er at_ at1 d 14 (vs 14) W := hG 14 (haft 14 (by kernel_rfl))
      have s37 : ρ (.tmp 37) = .bool d.on := (hρ.at_ 37 14 rfl).trans g37
      exact stepTo_value (w' := W) (by unfold execOp; simp only [s33, s37, hc]; go_simp) (next _ _ (Below.refl _ _) rfl)
    · have g31 : SameG p r s er at_ at1 d 8 (vs 8) W := hG 8 (haft 8 (by kernel_rfl))
      have s31 : ρ (.tmp 31) = .bool true := (hρ.at_ 31 8 rfl).trans g31
      have g38 : SameG p r s er at_ at1 d 15 (vs 15) W := hG 15 (haft 15 (by kernel_rfl))
      have s38 : ρ (.tmp 38) = .bool true := (hρ.at_ 38 15 rfl).trans g38
      exact stepTo_value (w' := W) (by unfold execOp; simp only [s31, s38, hc]; go_simp) (next _ _ (Below.refl _ _) rfl)
    · have g39 : SameG p r s er at_ at1 d 16 (vs 16) W := hG 16 (haft 16 (by kernel_rfl))
      have s39 : ρ (.tmp 39) = .bool true := (hρ.at_ 39 16 rfl).trans g39
      exact stepTo_value (w' := W) (by unfold execOp; simp only [s39, hc]; go_simp) (next _ _ (Below.refl _ _) rfl)
    · have o0 : ρ (.tmp 0) = .pointer (some ⟨p, 0, none⟩) := hρ.out 0 rfl
      exact stepTo_value (w' := W) (by unfold execOp; simp only [o0, hc]; go_simp) (next _ _ (Below.refl _ _) rfl)
    · have g41 : SameG p r s er at_ at1 d 18 (vs 18) W := hG 18 (haft 18 (by kernel_rfl))
      have s41 : ρ (.tmp 41) = .pointer (some ⟨p, 0, none⟩) := (hρ.at_ 41 18 rfl).trans g41
      refine stepTo_enter (f := 16) (args := #[.pointer (some ⟨p, 0, none⟩)]) (w' := W) (by unfold execOp; simp only [hfn, s41]; go_simp) ((used_any hW1).mono ?_)
      rintro x W' ⟨rfl, rfl⟩
      exact ⟨_, rfl, next _ _ (Below.refl _ _) rfl⟩
    · have o1 : ρ (.tmp 1) = .pointer (some ⟨r, 0, none⟩) := hρ.out 1 rfl
      exact stepTo_value (w' := W) (by unfold execOp; simp only [o1, hc]; go_simp) (next _ _ (Below.refl _ _) rfl)
    · have g43 : SameG p r s er at_ at1 d 20 (vs 20) W := hG 20 (haft 20 (by kernel_rfl))
      have s43 : ρ (.tmp 43) = .pointer (some ⟨r, 0, none⟩) := (hρ.at_ 43 20 rfl).trans g43
      refine stepTo_enter (f := 35) (args := #[.pointer (some ⟨r, 0, none⟩)]) (w' := W) (by unfold execOp; simp only [hfn, s43]; go_simp) ((rused_any hR1).mono ?_)
      rintro x W' ⟨rfl, rfl⟩
      exact ⟨_, rfl, next _ _ (Below.refl _ _) rfl⟩
    · have g42 : SameG p r s er at_ at1 d 19 (vs 19) W := hG 19 (haft 19 (by kernel_rfl))
      have s42 : ρ (.tmp 42) = .int .i64 (d.used : Int) := (hρ.at_ 42 19 rfl).trans g42
      have g44 : SameG p r s er at_ at1 d 21 (vs 21) W := hG 21 (haft 21 (by kernel_rfl))
      have s44 : ρ (.tmp 44) = .int .i64 (d.used : Int) := (hρ.at_ 44 21 rfl).trans g44
      exact stepTo_value (w' := W) (by unfold execOp; simp only [s42, s44, hc]; go_simp) (next _ _ (Below.refl _ _) rfl)
    · have g40 : SameG p r s er at_ at1 d 17 (vs 17) W := hG 17 (haft 17 (by kernel_rfl))
      have s40 : ρ (.tmp 40) = .bool true := (hρ.at_ 40 17 rfl).trans g40
      have g45 : SameG p r s er at_ at1 d 22 (vs 22) W := hG 22 (haft 22 (by kernel_rfl))
      have s45 : ρ (.tmp 45) = .bool true := (hρ.at_ 45 22 rfl).trans g45
      exact stepTo_value (w' := W) (by unfold execOp; simp only [s40, s45, hc]; go_simp) (next _ _ (Below.refl _ _) rfl)
    · have g46 : SameG p r s er at_ at1 d 23 (vs 23) W := hG 23 (haft 23 (by kernel_rfl))
      have s46 : ρ (.tmp 46) = .bool true := (hρ.at_ 46 23 rfl).trans g46
      exact stepTo_value (w' := W) (by unfold execOp; simp only [s46, hc]; go_simp) (next _ _ (Below.refl _ _) rfl)
    · have o0 : ρ (.tmp 0) = .pointer (some ⟨p, 0, none⟩) := hρ.out 0 rfl
      exact stepTo_value (w' := W) (by unfold execOp; simp only [o0, hc]; go_simp) (next _ _ (Below.refl _ _) rfl)
    · have g48 : SameG p r s er at_ at1 d 25 (vs 25) W := hG 25 (haft 25 (by kernel_rfl))
      have s48 : ρ (.tmp 48) = .pointer (some ⟨p, 0, none⟩) := (hρ.at_ 48 25 rfl).trans g48
      refine stepTo_enter (f := 36) (args := #[.pointer (some ⟨p, 0, none⟩)]) (w' := W) (by unfold execOp; simp only [hfn, s48]; go_simp) ((len_any hW1).mono ?_)
      rintro x W' ⟨rfl, rfl⟩
      exact ⟨_, rfl, next _ _ (Below.refl _ _) rfl⟩
    · have o1 : ρ (.tmp 1) = .pointer (some ⟨r, 0, none⟩) := hρ.out 1 rfl
      exact stepTo_value (w' := W) (by unfold execOp; simp only [o1, hc]; go_simp) (next _ _ (Below.refl _ _) rfl)
    · have g50 : SameG p r s er at_ at1 d 27 (vs 27) W := hG 27 (haft 27 (by kernel_rfl))
      have s50 : ρ (.tmp 50) = .pointer (some ⟨r, 0, none⟩) := (hρ.at_ 50 27 rfl).trans g50
      exact stepTo_value (w' := W) (by unfold execOp; simp only [s50, hc]; go_simp) (next _ _ (Below.refl _ _) rfl)
    · have g51 : SameG p r s er at_ at1 d 28 (vs 28) W := hG 28 (haft 28 (by kernel_rfl))
      have s51 : ρ (.tmp 51) = .pointer (some ⟨r, 0, none⟩) := (hρ.at_ 51 28 rfl).trans g51
      exact stepTo_value (w' := W) (by unfold execOp; simp only [s51, hc]; go_simp) (next _ _ (Below.refl _ _) rfl)
    · have g52 : SameG p r s er at_ at1 d 29 (vs 29) W := hG 29 (haft 29 (by kernel_rfl))
      have s52 : ρ (.tmp 52) = .pointer (some ⟨r, 0, none⟩) := (hρ.at_ 52 29 rfl).trans g52
      have l0 := l00
      exact stepTo_value (w' := W) (by unfold execOp; simp only [s52]; go_simp) (next _ _ (Below.refl _ _) rfl)
    · have g49 : SameG p r s er at_ at1 d 26 (vs 26) W := hG 26 (haft 26 (by kernel_rfl))
      have s49 : ρ (.tmp 49) = .int .i64 (d.n : Int) := (hρ.at_ 49 26 rfl).trans g49
      have g53 : SameG p r s er at_ at1 d 30 (vs 30) W := hG 30 (haft 30 (by kernel_rfl))
      have s53 : ρ (.tmp 53) = .int .i64 (d.n : Int) := (hρ.at_ 53 30 rfl).trans g53
      exact stepTo_value (w' := W) (by unfold execOp; simp only [s49, s53, hc]; go_simp) (next _ _ (Below.refl _ _) rfl)
    · have g47 : SameG p r s er at_ at1 d 24 (vs 24) W := hG 24 (haft 24 (by kernel_rfl))
      have s47 : ρ (.tmp 47) = .bool true := (hρ.at_ 47 24 rfl).trans g47
      have g54 : SameG p r s er at_ at1 d 31 (vs 31) W := hG 31 (haft 31 (by kernel_rfl))
      have s54 : ρ (.tmp 54) = .bool true := (hρ.at_ 54 31 rfl).trans g54
      exact stepTo_value (w' := W) (by unfold execOp; simp only [s47, s54, hc]; go_simp) (next _ _ (Below.refl _ _) rfl)
    · have g55 : SameG p r s er at_ at1 d 32 (vs 32) W := hG 32 (haft 32 (by kernel_rfl))
      have s55 : ρ (.tmp 55) = .bool true := (hρ.at_ 55 32 rfl).trans g55
      exact stepTo_value (w' := W) (by unfold execOp; simp only [s55, hc]; go_simp) (next _ _ (Below.refl _ _) rfl)
    · have o0 : ρ (.tmp 0) = .pointer (some ⟨p, 0, none⟩) := hρ.out 0 rfl
      exact stepTo_value (w' := W) (by unfold execOp; simp only [o0, hc]; go_simp) (next _ _ (Below.refl _ _) rfl)
    · have o2 : ρ (.tmp 2) = .int .i64 at_ := hρ.out 2 rfl
      exact stepTo_value (w' := W) (by unfold execOp; simp only [o2, hc]; go_simp) (next _ _ (Below.refl _ _) rfl)
    · have o2 : ρ (.tmp 2) = .int .i64 at_ := hρ.out 2 rfl
      exact stepTo_value (w' := W) (by unfold execOp; simp only [o2, hc]; go_simp) (next _ _ (Below.refl _ _) rfl)
    · have o2 : ρ (.tmp 2) = .int .i64 at_ := hρ.out 2 rfl
      exact stepTo_value (w' := W) (by unfold execOp; simp only [o2, hc]; go_simp) (next _ _ (Below.refl _ _) rfl)
    · have g60 : SameG p r s er at_ at1 d 37 (vs 37) W := hG 37 (haft 37 (by kernel_rfl))
      have s60 : ρ (.tmp 60) = .int .i64 at_ := (hρ.at_ 60 37 rfl).trans g60
      exact stepTo_value (w' := W) (by unfold execOp; simp only [s60]; go_simp) (next _ _ (Below.refl _ _) rfl)
    · have g58 : SameG p r s er at_ at1 d 35 (vs 35) W := hG 35 (haft 35 (by kernel_rfl))
      have s58 : ρ (.tmp 58) = .int .i64 at_ := (hρ.at_ 58 35 rfl).trans g58
      have g59 : SameG p r s er at_ at1 d 36 (vs 36) W := hG 36 (haft 36 (by kernel_rfl))
      have s59 : ρ (.tmp 59) = .int .i64 at_ := (hρ.at_ 59 36 rfl).trans g59
      have g61 : SameG p r s er at_ at1 d 38 (vs 38) W := hG 38 (haft 38 (by kernel_rfl))
      have s61 : ρ (.tmp 61) = .int .i64 at1 := (hρ.at_ 61 38 rfl).trans g61
      refine stepTo_value (v := .slice (some ⟨W.heap.size, 0, none⟩) 3 3) (w' := W.alloc (.cells #[.int .i64 at_, .int .i64 at_, .int .i64 at1] 3)) (by unfold execOp; simp only [s58, s59, s61]; go_simp) (next _ _ ((Below.refl _ _).alloc (Nat.le_refl _) _) ⟨W.heap.size, rfl, by simp, ints_three W at_ at1 ha0 ha1 hb0 hb1⟩)
    · have g57 : SameG p r s er at_ at1 d 34 (vs 34) W := hG 34 (haft 34 (by kernel_rfl))
      have s57 : ρ (.tmp 57) = .pointer (some ⟨p, 0, none⟩) := (hρ.at_ 57 34 rfl).trans g57
      obtain ⟨b, g62, hbb, hint⟩ : SameG p r s er at_ at1 d 39 (vs 39) W := hG 39 (haft 39 (by kernel_rfl))
      have s62 : ρ (.tmp 62) = .slice (some ⟨b, 0, none⟩) 3 3 := (hρ.at_ 62 39 rfl).trans g62
      refine stepTo_enter (f := 19) (args := #[.pointer (some ⟨p, 0, none⟩), .slice (some ⟨b, 0, none⟩) 3 3]) (w' := W) (by unfold execOp; simp only [hfn, s57, s62]; go_simp) ((fits_any hWd _ 3 [at_, at_, at1] hint (by simp)).mono ?_)
      rintro x W' ⟨rfl, hb'⟩
      exact ⟨_, rfl, next _ _ hb' rfl⟩
    · have o1 : ρ (.tmp 1) = .pointer (some ⟨r, 0, none⟩) := hρ.out 1 rfl
      exact stepTo_value (w' := W) (by unfold execOp; simp only [o1, hc]; go_simp) (next _ _ (Below.refl _ _) rfl)
    · have o2 : ρ (.tmp 2) = .int .i64 at_ := hρ.out 2 rfl
      exact stepTo_value (w' := W) (by unfold execOp; simp only [o2, hc]; go_simp) (next _ _ (Below.refl _ _) rfl)
    · have o2 : ρ (.tmp 2) = .int .i64 at_ := hρ.out 2 rfl
      exact stepTo_value (w' := W) (by unfold execOp; simp only [o2, hc]; go_simp) (next _ _ (Below.refl _ _) rfl)
    · have o2 : ρ (.tmp 2) = .int .i64 at_ := hρ.out 2 rfl
      exact stepTo_value (w' := W) (by unfold execOp; simp only [o2, hc]; go_simp) (next _ _ (Below.refl _ _) rfl)
    · have g67 : SameG p r s er at_ at1 d 44 (vs 44) W := hG 44 (haft 44 (by kernel_rfl))
      have s67 : ρ (.tmp 67) = .int .i64 at_ := (hρ.at_ 67 44 rfl).trans g67
      exact stepTo_value (w' := W) (by unfold execOp; simp only [s67]; go_simp) (next _ _ (Below.refl _ _) rfl)
    · have g65 : SameG p r s er at_ at1 d 42 (vs 42) W := hG 42 (haft 42 (by kernel_rfl))
      have s65 : ρ (.tmp 65) = .int .i64 at_ := (hρ.at_ 65 42 rfl).trans g65
      have g66 : SameG p r s er at_ at1 d 43 (vs 43) W := hG 43 (haft 43 (by kernel_rfl))
      have s66 : ρ (.tmp 66) = .int .i64 at_ := (hρ.at_ 66 43 rfl).trans g66
      have g68 : SameG p r s er at_ at1 d 45 (vs 45) W := hG 45 (haft 45 (by kernel_rfl))
      have s68 : ρ (.tmp 68) = .int .i64 at1 := (hρ.at_ 68 45 rfl).trans g68
      refine stepTo_value (v := .slice (some ⟨W.heap.size, 0, none⟩) 3 3) (w' := W.alloc (.cells #[.int .i64 at_, .int .i64 at_, .int .i64 at1] 3)) (by unfold execOp; simp only [s65, s66, s68]; go_simp) (next _ _ ((Below.refl _ _).alloc (Nat.le_refl _) _) ⟨W.heap.size, rfl, by simp, ints_three W at_ at1 ha0 ha1 hb0 hb1⟩)
    · have g64 : SameG p r s er at_ at1 d 41 (vs 41) W := hG 41 (haft 41 (by kernel_rfl))
      have s64 : ρ (.tmp 64) = .pointer (some ⟨r, 0, none⟩) := (hρ.at_ 64 41 rfl).trans g64
      obtain ⟨b, g69, hbb, hint⟩ : SameG p r s er at_ at1 d 46 (vs 46) W := hG 46 (haft 46 (by kernel_rfl))
      have s69 : ρ (.tmp 69) = .slice (some ⟨b, 0, none⟩) 3 3 := (hρ.at_ 69 46 rfl).trans g69
      refine stepTo_enter (f := 37) (args := #[.pointer (some ⟨r, 0, none⟩), .slice (some ⟨b, 0, none⟩) 3 3]) (w' := W) (by unfold execOp; simp only [hfn, s64, s69]; go_simp) ((rfits_any hRd _ 3 [at_, at_, at1] hint (by simp)).mono ?_)
      rintro x W' ⟨rfl, hb'⟩
      exact ⟨_, rfl, next _ _ hb' rfl⟩
    · have g63 : SameG p r s er at_ at1 d 40 (vs 40) W := hG 40 (haft 40 (by kernel_rfl))
      have s63 : ρ (.tmp 63) = .bool (d.fits [at_, at_, at1]) := (hρ.at_ 63 40 rfl).trans g63
      have g70 : SameG p r s er at_ at1 d 47 (vs 47) W := hG 47 (haft 47 (by kernel_rfl))
      have s70 : ρ (.tmp 70) = .bool (d.fits [at_, at_, at1]) := (hρ.at_ 70 47 rfl).trans g70
      exact stepTo_value (w' := W) (by unfold execOp; simp only [s63, s70, hc]; go_simp) (next _ _ (Below.refl _ _) rfl)
    · have g56 : SameG p r s er at_ at1 d 33 (vs 33) W := hG 33 (haft 33 (by kernel_rfl))
      have s56 : ρ (.tmp 56) = .bool true := (hρ.at_ 56 33 rfl).trans g56
      have g71 : SameG p r s er at_ at1 d 48 (vs 48) W := hG 48 (haft 48 (by kernel_rfl))
      have s71 : ρ (.tmp 71) = .bool true := (hρ.at_ 71 48 rfl).trans g71
      exact stepTo_value (w' := W) (by unfold execOp; simp only [s56, s71, hc]; go_simp) (next _ _ (Below.refl _ _) rfl)
    · have g72 : SameG p r s er at_ at1 d 49 (vs 49) W := hG 49 (haft 49 (by kernel_rfl))
      have s72 : ρ (.tmp 72) = .bool true := (hρ.at_ 72 49 rfl).trans g72
      exact stepTo_value (w' := W) (by unfold execOp; simp only [s72, hc]; go_simp) (next _ _ (Below.refl _ _) rfl)
  · intro i o L vs W j want ho hli haft hg hv hI
    have hi51 : i < 51 := (Array.getElem?_eq_some_iff.1 ho).1
    have hG : ∀ j, L j = true → j < 51 → SameG p r s er at_ at1 d j (vs j) W := fun j hj h51 => hI.2 j hj h51
    clear hI
    rcases i with _ | _ | _ | _ | _ | _ | _ | _ | _ | _ | _ | _ | _ | _ | _ | _ | _ | _ | _ | _ | _ | _ | _ | _ | _ | _ | _ | _ | _ | _ | _ | _ | _ | _ | _ | _ | _ | _ | _ | _ | _ | _ | _ | _ | _ | _ | _ | _ | _ | _ | _ | i
    all_goals (first | omega | skip)
    all_goals simp only [List.getElem?_toArray, List.getElem?_cons_zero, List.getElem?_cons_succ, Option.some.injEq] at ho
    all_goals subst ho
    all_goals simp only [reduceCtorEq, Option.some.injEq, Prod.mk.injEq] at hg
    · obtain ⟨rfl, rfl⟩ := hg
      exact (hv (hG 3 (haft 3 (by kernel_rfl)) (by decide))).elim
    · obtain ⟨rfl, rfl⟩ := hg
      exact (hv (hG 3 (haft 3 (by kernel_rfl)) (by decide))).elim
    · obtain ⟨rfl, rfl⟩ := hg
      exact (hv (hG 3 (haft 3 (by kernel_rfl)) (by decide))).elim
    · obtain ⟨rfl, rfl⟩ := hg
      exact (hv (hG 8 (haft 8 (by kernel_rfl)) (by decide))).elim
    · obtain ⟨rfl, rfl⟩ := hg
      exact (hv (hG 8 (haft 8 (by kernel_rfl)) (by decide))).elim
    · obtain ⟨rfl, rfl⟩ := hg
      exact (hv (hG 8 (haft 8 (by kernel_rfl)) (by decide))).elim
    · obtain ⟨rfl, rfl⟩ := hg
      exact (hv (hG 8 (haft 8 (by kernel_rfl)) (by decide))).elim
    · obtain ⟨rfl, rfl⟩ := hg
      exact (hv (hG 8 (haft 8 (by kernel_rfl)) (by decide))).elim
    · obtain ⟨rfl, rfl⟩ := hg
      exact (hv (hG 8 (haft 8 (by kernel_rfl)) (by decide))).elim
    · obtain ⟨rfl, rfl⟩ := hg
      exact (hv (hG 8 (haft 8 (by kernel_rfl)) (by decide))).elim
    · obtain ⟨rfl, rfl⟩ := hg
      exact (hv (hG 17 (haft 17 (by kernel_rfl)) (by decide))).elim
    · obtain ⟨rfl, rfl⟩ := hg
      exact (hv (hG 17 (haft 17 (by kernel_rfl)) (by decide))).elim
    · obtain ⟨rfl, rfl⟩ := hg
      exact (hv (hG 17 (haft 17 (by kernel_rfl)) (by decide))).elim
    · obtain ⟨rfl, rfl⟩ := hg
      exact (hv (hG 17 (haft 17 (by kernel_rfl)) (by decide))).elim
    · obtain ⟨rfl, rfl⟩ := hg
      exact (hv (hG 17 (haft 17 (by kernel_rfl)) (by decide))).elim
    · obtain ⟨rfl, rfl⟩ := hg
      exact (hv (hG 24 (haft 24 (by kernel_rfl)) (by decide))).elim
    · obtain ⟨rfl, rfl⟩ := hg
      exact (hv (hG 24 (haft 24 (by kernel_rfl)) (by decide))).elim
    · obtain ⟨rfl, rfl⟩ := hg
      exact (hv (hG 24 (haft 24 (by kernel_rfl)) (by decide))).elim
    · obtain ⟨rfl, rfl⟩ := hg
      exact (hv (hG 24 (haft 24 (by kernel_rfl)) (by decide))).elim
    · obtain ⟨rfl, rfl⟩ := hg
      exact (hv (hG 24 (haft 24 (by kernel_rfl)) (by decide))).elim
    · obtain ⟨rfl, rfl⟩ := hg
      exact (hv (hG 24 (haft 24 (by kernel_rfl)) (by decide))).elim
    · obtain ⟨rfl, rfl⟩ := hg
      exact (hv (hG 24 (haft 24 (by kernel_rfl)) (by decide))).elim
    · obtain ⟨rfl, rfl⟩ := hg
      exact (hv (hG 33 (haft 33 (by kernel_rfl)) (by decide))).elim
    · obtain ⟨rfl, rfl⟩ := hg
      exact (hv (hG 33 (haft 33 (by kernel_rfl)) (by decide))).elim
    · obtain ⟨rfl, rfl⟩ := hg
      exact (hv (hG 33 (haft 33 (by kernel_rfl)) (by decide))).elim
    · obtain ⟨rfl, rfl⟩ := hg
      exact (hv (hG 33 (haft 33 (by kernel_rfl)) (by decide))).elim
    · obtain ⟨rfl, rfl⟩ := hg
      exact (hv (hG 33 (haft 33 (by kernel_rfl)) (by decide))).elim
    · obtain ⟨rfl, rfl⟩ := hg
      exact (hv (hG 33 (haft 33 (by kernel_rfl)) (by decide))).elim
    · obtain ⟨rfl, rfl⟩ := hg
      exact (hv (hG 33 (haft 33 (by kernel_rfl)) (by decide))).elim
    · obtain ⟨rfl, rfl⟩ := hg
      exact (hv (hG 33 (haft 33 (by kernel_rfl)) (by decide))).elim
    · obtain ⟨rfl, rfl⟩ := hg
      exact (hv (hG 33 (haft 33 (by kernel_rfl)) (by decide))).elim
    · obtain ⟨rfl, rfl⟩ := hg
      exact (hv (hG 33 (haft 33 (by kernel_rfl)) (by decide))).elim
    · obtain ⟨rfl, rfl⟩ := hg
      exact (hv (hG 33 (haft 33 (by kernel_rfl)) (by decide))).elim
    · obtain ⟨rfl, rfl⟩ := hg
      exact (hv (hG 33 (haft 33 (by kernel_rfl)) (by decide))).elim
    · obtain ⟨rfl, rfl⟩ := hg
      exact (hv (hG 33 (haft 33 (by kernel_rfl)) (by decide))).elim
    · obtain ⟨rfl, rfl⟩ := hg
      exact (hv (hG 33 (haft 33 (by kernel_rfl)) (by decide))).elim
    · obtain ⟨rfl, rfl⟩ := hg
      exact (hv (hG 33 (haft 33 (by kernel_rfl)) (by decide))).elim
  · intro vs W hI
    have g50 : vs 50 = .bool true := hI.2 50 (by decide) (by decide)
    have hbW := Lib.hid hI.1
    clear hI
    go_wp2_with fail
    refine bodyPost_slot 50 rfl (by decide +kernel) (by kernel_rfl) rfl g50 ⟨rfl, hbW.out⟩
end Go.Proofs.Ytbpkgfhhoejmcaa.dk
