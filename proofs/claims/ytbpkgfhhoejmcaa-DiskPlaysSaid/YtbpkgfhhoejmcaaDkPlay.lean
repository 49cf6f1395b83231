/- The walk of DiskPlays. -/
import Derived.Test.YtbpkgfhhoejmcaaDkDoW
import Derived.Test.YtbpkgfhhoejmcaaDkSame
import Derived.Test.YtbpkgfhhoejmcaaDkWorks
import Derived.Test.YtbpkgfhhoejmcaaDkCopy2
import Derived.Test.YtbpkgfhhoejmcaaRkCopy2
import Derived.Test.YtbpkgfhhoejmcaaRkRead
import Derived.Test.YtbpkgfhhoejmcaaDkMore
namespace Go.Proofs.Ytbpkgfhhoejmcaa.dk
open Go Go.RowKit

/-- What the operations that lay both disks yield. -/
def NewG (g : Nat) (a b : Int) : Nat → Value → Prop
  | 0, v => v = .pointer (some ⟨g, 0, none⟩)
  | 1, v => v = .int .i64 a
  | 2, v => v = .pointer (some ⟨g, 1, none⟩)
  | 3, v => v = .int .i64 b
  | 5, v => v = .pointer (some ⟨g, 0, none⟩)
  | 6, v => v = .int .i64 a
  | 7, v => v = .pointer (some ⟨g, 1, none⟩)
  | 8, v => v = .int .i64 b
  | _, _ => True

/-- How far the two calls and the two stores behind them are. -/
def SeqI (A : Value → World → Prop) (C : Value → Value → World → Prop) (L : Nat → Bool) (vs : Nat → Value) (W : World) : Prop :=
  (L 4 = true → L 9 = false → A (vs 4) W) ∧ (L 9 = true → L 4 = true ∧ C (vs 4) (vs 9) W) ∧ (L 10 = true → L 9 = true ∧ vs 10 = vs 4) ∧ (L 11 = true → L 10 = true ∧ vs 11 = vs 9)

section
variable {A : Value → World → Prop} {C : Value → Value → World → Prop} {L : Nat → Bool} {vs : Nat → Value} {W W' : World}

theorem SeqI.start (A : Value → World → Prop) (C : Value → Value → World → Prop) (vs : Nat → Value) (W : World) : SeqI A C (fun _ => false) vs W := ⟨fun h => (by cases h), fun h => (by cases h), fun h => (by cases h), fun h => (by cases h)⟩
theorem SeqI.other (h : SeqI A C L vs W) (i : Nat) (v : Value) (h4 : i ≠ 4) (h9 : i ≠ 9) (h10 : i ≠ 10) (h11 : i ≠ 11) : SeqI A C (updB L i) (updV vs i v) W := by
  simp only [SeqI, updB, updV, if_neg (Ne.symm h4), if_neg (Ne.symm h9), if_neg (Ne.symm h10), if_neg (Ne.symm h11)]
  exact h
theorem SeqI.s4 (h : SeqI A C L vs W) (hl : L 4 = false) {v : Value} (hv : A v W') : SeqI A C (updB L 4) (updV vs 4 v) W' := by
  obtain ⟨h1, h2, h3, h4⟩ := h
  have n9 : L 9 = false := by cases hx : L 9 with | false => rfl | true => exact absurd (h2 hx).1 (by rw [hl]; decide)
  have n10 : L 10 = false := by cases hx : L 10 with | false => rfl | true => exact absurd (h3 hx).1 (by rw [n9]; decide)
  have n11 : L 11 = false := by cases hx : L 11 with | false => rfl | true => exact absurd (h4 hx).1 (by rw [n10]; decide)
  simp [SeqI, updB, updV, n9, n10, n11, hv]
theorem SeqI.a (h : SeqI A C L vs W) (y4 : L 4 = true) (hl : L 9 = false) : A (vs 4) W := h.1 y4 hl
theorem SeqI.s9 (h : SeqI A C L vs W) (y4 : L 4 = true) (hl : L 9 = false) {v : Value} (hv : C (vs 4) v W') : SeqI A C (updB L 9) (updV vs 9 v) W' := by
  obtain ⟨h1, h2, h3, h4⟩ := h
  have n10 : L 10 = false := by cases hx : L 10 with | false => rfl | true => exact absurd (h3 hx).1 (by rw [hl]; decide)
  have n11 : L 11 = false := by cases hx : L 11 with | false => rfl | true => exact absurd (h4 hx).1 (by rw [n10]; decide)
  simp [SeqI, updB, updV, n10, n11, y4, hv]
theorem SeqI.s10 (h : SeqI A C L vs W) (y9 : L 9 = true) (hl : L 10 = false) : SeqI A C (updB L 10) (updV vs 10 (vs 4)) W := by
  obtain ⟨h1, h2, h3, h4⟩ := h
  have n11 : L 11 = false := by cases hx : L 11 with | false => rfl | true => exact absurd (h4 hx).1 (by rw [hl]; decide)
  simp [SeqI, updB, updV, n11, y9, h2 y9]
theorem SeqI.s11 (h : SeqI A C L vs W) (y10 : L 10 = true) : SeqI A C (updB L 11) (updV vs 11 (vs 9)) W := by
  obtain ⟨h1, h2, h3, h4⟩ := h
  simp [SeqI, updB, updV, y10, h3 y10, h2 (h3 y10).1]
theorem SeqI.all (h : SeqI A C L vs W) (y4 : L 4 = true) (y9 : L 9 = true) (y10 : L 10 = true) (y11 : L 11 = true) : vs 10 = vs 4 ∧ vs 11 = vs 9 ∧ C (vs 4) (vs 9) W := ⟨(h.2.2.1 y10).2, (h.2.2.2 y11).2, (h.2.1 y9).2⟩
end

theorem pair_kept {w w0 : World} {a b : Int} {W : World} (h0 : w.alloc (.cells #[.int .i64 a, .int .i64 b] 23) = w0) (hb : Below w0.heap.size w0 W) : W.cell? ⟨w.heap.size, 0, none⟩ = some (.int .i64 a) ∧ W.cell? ⟨w.heap.size, 1, none⟩ = some (.int .i64 b) := by
  subst h0
  have hA := Blk.new w 23 #[.int .i64 a, .int .i64 b]
  have hB := hA.of_block (hb.block w.heap.size hA.lt)
  exact ⟨hB.cell 0, hB.cell 1⟩

def NoneA (v : Value) (_ : World) : Prop := v = .pointer none
def NoneC (v v' : Value) (_ : World) : Prop := v = .pointer none ∧ v' = .pointer none
def SomeA (B : Nat) (D : DD) (v : Value) (W : World) : Prop := ∃ p own, v = .pointer (some ⟨p, 0, none⟩) ∧ DkIs 200 W own p D ∧ ∀ k, own k → B ≤ k
def SomeC (B : Nat) (D : DD) (v v' : Value) (W : World) : Prop := ∃ p r, v = .pointer (some ⟨p, 0, none⟩) ∧ v' = .pointer (some ⟨r, 0, none⟩) ∧ Both 200 W B p r D D


theorem act_any {most : Nat} {w : World} {B p r : Nat} {d : DD} (h : Both most w B p r d d) (hB : B ≤ w.heap.size) (hmost : most ≤ 100000) (hm : d.more.length < most) (x : ActV) (ha1 : x.at_ ≤ 9223372036854775807) (hbo : BoolsAt w x.A x.keep) (hk : ∀ b o, x.A = some ⟨b, o, none⟩ → 0 < x.keep.length → b < B) :
    Calls Try.prog 14 #[.pointer (some ⟨p, 0, none⟩), .pointer (some ⟨r, 0, none⟩), x.val] w (TwoPost most B p r (d.act x) (d.act x) (.bool true) w) := by
  obtain ⟨what, at_, c, A, cap, keep⟩ := x
  unfold DD.act
  dsimp only at *
  split
  · rename_i hw
    exact do_write h hB hmost hm what hw at_ c A cap keep
  split
  · rename_i hw
    subst hw
    exact do_flush h hB hmost at_ c A cap keep
  split
  · rename_i hw
    subst hw
    exact do_arm h hB hmost at_ c A cap keep ha1
  split
  · rename_i hw
    subst hw
    exact do_off h hB hmost at_ c A cap keep
  split
  · rename_i hw
    exact do_wake h hB hmost what hw at_ c A cap keep hbo hk
  split
  · rename_i hw
    subst hw
    exact do_room h hB hmost at_ c A cap keep ha1
  · exact do_else h hB what (fun k hk => by omega) at_ c A cap keep

theorem act_more (d : DD) (x : ActV) : (d.act x).more.length ≤ d.more.length + 1 := by
  have ho := (oper_rest d).2.1
  unfold DD.act
  split
  · exact write_more d _ _
  split
  · unfold DD.flush
    split
    · simp
    · split <;> simp [ho]
  split
  · simp [DD.arm]
  split
  · simp [DD.off]
  split
  · unfold DD.wake
    split <;> simp
  split
  · simp [DD.setRoom]
  · simp

/-- Three disks: the old one (beside the blocks of the two others), the document's, the new one. -/
def TG (B : Nat) (own2 own3 : Nat → Prop) (k : Nat) : Prop := B ≤ k ∧ ¬ own2 k ∧ ¬ own3 k
def Trio (B : Nat) (own2 own3 : Nat → Prop) (p r q : Nat) (e d : DD) (w0 W : World) : Prop :=
  InG 200 W (TG B own2 own3) p e ∧ RkIs 200 W own2 r d ∧ DkIs 200 W own3 q d ∧ Below B w0 W ∧ (∀ k, own3 k → B ≤ k) ∧ (∀ k, own2 k → B ≤ k) ∧ B ≤ w0.heap.size

section
variable {B : Nat} {own2 own3 : Nat → Prop} {p r q : Nat} {e e' d : DD} {w0 W W' : World}
theorem Trio.big (h : Trio B own2 own3 p r q e d w0 W) : ∀ k, W.heap.size ≤ k → TG B own2 own3 k := fun k hk => by
  obtain ⟨_, h2, h3, h4, _, _, h7⟩ := h
  have := h4.size
  refine ⟨by omega, fun g => ?_, fun g => ?_⟩
  · have := h2.low k g
    omega
  · have := h3.low k g
    omega
theorem Trio.next (h : Trio B own2 own3 p r q e d w0 W) (hI : InG 200 W' (TG B own2 own3) p e') (hb : But (TG B own2 own3) W W') : Trio B own2 own3 p r q e' d w0 W' := by
  obtain ⟨_, h2, h3, h4, h5, h6, h7⟩ := h
  exact ⟨hI, h2.but hb (fun k hk g => g.2.1 hk), h3.but hb (fun k hk g => g.2.2 hk), h4.trans (hb.below (fun k g => g.1) (Nat.le_trans h7 h4.size)), h5, h6, h7⟩
theorem Trio.below (h : Trio B own2 own3 p r q e d w0 W) (hb : Below W.heap.size W W') : Trio B own2 own3 p r q e d w0 W' := by
  obtain ⟨h1, h2, h3, h4, h5, h6, h7⟩ := h
  exact ⟨h1.below hb, h2.below hb, h3.below hb, h4.trans (hb.mono (Nat.le_trans h7 h4.size)), h5, h6, h7⟩
theorem Trio.made (h : Trio B own2 own3 p r q e d w0 W) {r' : Nat} {own9 : Nat → Prop} (k1 : RkIs 200 W' own9 r' d) (k2 : Below W.heap.size W W') (k3 : ∀ k, own9 k → W.heap.size ≤ k) : Both 200 W' B q r' d d := by
  obtain ⟨_, h2, h3, h4, h5, h6, h7⟩ := h
  exact Both.make h3 k1 k2 h5 k3 (Nat.le_trans h7 h4.size)
end

/-- The loop's relation. -/
def PlayRel (zs : List ActV) (w : World) (v u i : Value) (wr : World) : Prop :=
  ∃ (k : Nat) (d : DD) (p r : Nat), k ≤ zs.length ∧ k ≤ 100 ∧ v = .pointer (some ⟨p, 0, none⟩) ∧ u = .pointer (some ⟨r, 0, none⟩) ∧ i = .int .i64 (k : Int) ∧ Both 200 wr w.heap.size p r d d ∧ d.more.length ≤ k ∧ Below w.heap.size w wr

set_option maxRecDepth 100000 in
set_option maxHeartbeats 3200000 in
theorem plays_none (A : Option Addr) (n c : Nat) (a b : Int) (h : a < 1 ∨ 1024 < a ∨ b < 0) (cp : Int) (w : World) :
    Calls Try.prog 3 #[.slice A n c, .agg #[.int .i64 a, .int .i64 b], .int .u8 cp] w (okB true w) := by
  obtain ⟨w0, hw0⟩ : ∃ x, w.alloc (.cells #[.int .i64 a, .int .i64 b] 23) = x := ⟨_, rfl⟩
  have HW0 := Lib.hid hw0
  have hb0 : Below w.heap.size w w0 := by rw [← hw0]; exact (Below.refl w.heap.size w).alloc (Nat.le_refl _) _
  have HB0 := Lib.hid hb0
  have c4 : ∀ W, Below w0.heap.size w0 W → Calls Try.prog 4 #[.int .i64 a, .int .i64 b] W fun e W' => ∃ v, e = .returned v ∧ NoneA v W' ∧ Below W.heap.size W W' := fun W _ => (new_none a b h W).mono fun e W' g => by
    obtain ⟨rfl, rfl⟩ := g
    exact ⟨_, rfl, rfl, Below.refl _ _⟩
  have c9 : ∀ W v, Below w0.heap.size w0 W → NoneA v W → Calls Try.prog 5 #[.int .i64 a, .int .i64 b] W fun e W' => ∃ v', e = .returned v' ∧ NoneC v v' W' ∧ Below W.heap.size W W' := fun W v _ hv => (rnew_none a b h W).mono fun e W' g => by
    obtain ⟨rfl, rfl⟩ := g
    exact ⟨_, rfl, ⟨hv, rfl⟩, Below.refl _ _⟩
  clear hb0
  go_enter Try.func3, Try.ntmps3
  go_wp2_with fail
  clear hw0
  refine wp_region_inv (by kernel_rfl) [11, 12, 13, 14, 15, 16, 17, 18, 19, 20, 7, 8] (by kernel_rfl) (fun L vs W => Below w0.heap.size w0 W ∧ SeqI NoneA NoneC L vs W ∧ ∀ i, L i = true → i < 12 → NewG w.heap.size a b i (vs i)) ⟨(Below.refl w0.heap.size w0).drew, SeqI.start _ _ _ _, fun i hi => by cases hi⟩ ?_ ?_ ?_
  · intro i o L vs ρ W ho hli haft hρ hgd hI
    obtain ⟨b0, hS, hG'⟩ := hI
    have hG : ∀ j, L j = true → NewG w.heap.size a b j (vs j) := fun j hj => by
      by_cases h12 : j < 12
      · exact hG' j hj h12
      · match j, h12 with
        | j + 12, _ => exact trivial
    have hi12 : i < 12 := (Array.getElem?_eq_some_iff.1 ho).1
    have hc := hρ.const
    have hfn := hρ.fn
    have nextG : ∀ v, NewG w.heap.size a b i v → ∀ j, updB L i j = true → j < 12 → NewG w.heap.size a b j (updV vs i v j) := fun v h2 j hj h12 => by
      by_cases hji : j = i
      · subst hji
        simpa [updV] using h2
      · simp only [updB, if_neg hji] at hj
        simpa [updV, hji] using hG' j hj h12
    have hK := pair_kept HW0.out b0
    obtain ⟨l0, l1⟩ := hK
    rcases i with _ | _ | _ | _ | _ | _ | _ | _ | _ | _ | _ | _ | i
    all_goals (first | omega | skip)
    all_goals simp only [List.getElem?_toArray, List.getElem?_cons_zero, List.getElem?_cons_succ, Option.some.injEq] at ho
    all_goals subst ho
    · have o4 : ρ (.tmp 4) = .pointer (some ⟨w.heap.size, 0, none⟩) := hρ.out 4 rfl
      exact stepTo_value (w' := W) (by unfold execOp; simp only [o4, hc]; go_simp) ⟨b0, hS.other _ _ (by decide) (by decide) (by decide) (by decide), nextG _ rfl⟩
    · have g11 : NewG w.heap.size a b 0 (vs 0) := hG 0 (haft 0 (by kernel_rfl))
      have s11 : ρ (.tmp 11) = .pointer (some ⟨w.heap.size, 0, none⟩) := (hρ.at_ 11 0 rfl).trans g11
      exact stepTo_value (w' := W) (by unfold execOp; simp only [s11, hc]; go_simp) ⟨b0, hS.other _ _ (by decide) (by decide) (by decide) (by decide), nextG _ rfl⟩
    · have o4 : ρ (.tmp 4) = .pointer (some ⟨w.heap.size, 0, none⟩) := hρ.out 4 rfl
      exact stepTo_value (w' := W) (by unfold execOp; simp only [o4, hc]; go_simp) ⟨b0, hS.other _ _ (by decide) (by decide) (by decide) (by decide), nextG _ rfl⟩
    · have g13 : NewG w.heap.size a b 2 (vs 2) := hG 2 (haft 2 (by kernel_rfl))
      have s13 : ρ (.tmp 13) = .pointer (some ⟨w.heap.size, 1, none⟩) := (hρ.at_ 13 2 rfl).trans g13
      exact stepTo_value (w' := W) (by unfold execOp; simp only [s13, hc]; go_simp) ⟨b0, hS.other _ _ (by decide) (by decide) (by decide) (by decide), nextG _ rfl⟩
    · have g12 : NewG w.heap.size a b 1 (vs 1) := hG 1 (haft 1 (by kernel_rfl))
      have s12 : ρ (.tmp 12) = .int .i64 a := (hρ.at_ 12 1 rfl).trans g12
      have g14 : NewG w.heap.size a b 3 (vs 3) := hG 3 (haft 3 (by kernel_rfl))
      have s14 : ρ (.tmp 14) = .int .i64 b := (hρ.at_ 14 3 rfl).trans g14
      refine stepTo_enter (f := 4) (args := #[.int .i64 a, .int .i64 b]) (w' := W) (by unfold execOp; simp only [hfn, s12, s14]; go_simp) ((c4 W b0).mono ?_)
      rintro x W' ⟨v, rfl, hv, hb'⟩
      exact ⟨v, rfl, below_step b0 hb', hS.s4 hli hv, nextG _ trivial⟩
    · have o4 : ρ (.tmp 4) = .pointer (some ⟨w.heap.size, 0, none⟩) := hρ.out 4 rfl
      exact stepTo_value (w' := W) (by unfold execOp; simp only [o4, hc]; go_simp) ⟨b0, hS.other _ _ (by decide) (by decide) (by decide) (by decide), nextG _ rfl⟩
    · have g16 : NewG w.heap.size a b 5 (vs 5) := hG 5 (haft 5 (by kernel_rfl))
      have s16 : ρ (.tmp 16) = .pointer (some ⟨w.heap.size, 0, none⟩) := (hρ.at_ 16 5 rfl).trans g16
      exact stepTo_value (w' := W) (by unfold execOp; simp only [s16, hc]; go_simp) ⟨b0, hS.other _ _ (by decide) (by decide) (by decide) (by decide), nextG _ rfl⟩
    · have o4 : ρ (.tmp 4) = .pointer (some ⟨w.heap.size, 0, none⟩) := hρ.out 4 rfl
      exact stepTo_value (w' := W) (by unfold execOp; simp only [o4, hc]; go_simp) ⟨b0, hS.other _ _ (by decide) (by decide) (by decide) (by decide), nextG _ rfl⟩
    · have g18 : NewG w.heap.size a b 7 (vs 7) := hG 7 (haft 7 (by kernel_rfl))
      have s18 : ρ (.tmp 18) = .pointer (some ⟨w.heap.size, 1, none⟩) := (hρ.at_ 18 7 rfl).trans g18
      exact stepTo_value (w' := W) (by unfold execOp; simp only [s18, hc]; go_simp) ⟨b0, hS.other _ _ (by decide) (by decide) (by decide) (by decide), nextG _ rfl⟩
    · have g17 : NewG w.heap.size a b 6 (vs 6) := hG 6 (haft 6 (by kernel_rfl))
      have s17 : ρ (.tmp 17) = .int .i64 a := (hρ.at_ 17 6 rfl).trans g17
      have g19 : NewG w.heap.size a b 8 (vs 8) := hG 8 (haft 8 (by kernel_rfl))
      have s19 : ρ (.tmp 19) = .int .i64 b := (hρ.at_ 19 8 rfl).trans g19
      have y4 : L 4 = true := haft 4 (by kernel_rfl)
      refine stepTo_enter (f := 5) (args := #[.int .i64 a, .int .i64 b]) (w' := W) (by unfold execOp; simp only [hfn, s17, s19]; go_simp) ((c9 W (vs 4) b0 (hS.a y4 hli)).mono ?_)
      rintro x W' ⟨v, rfl, hv, hb'⟩
      exact ⟨v, rfl, below_step b0 hb', hS.s9 y4 hli hv, nextG _ trivial⟩
    · have s15 : ρ (.tmp 15) = vs 4 := hρ.at_ 15 4 rfl
      exact stepTo_value (w' := W) (by unfold execOp; simp only [s15]; go_simp) ⟨b0, hS.s10 (haft 9 (by kernel_rfl)) hli, nextG _ trivial⟩
    · have s20 : ρ (.tmp 20) = vs 9 := hρ.at_ 20 9 rfl
      exact stepTo_value (w' := W) (by unfold execOp; simp only [s20]; go_simp) ⟨b0, hS.s11 (haft 10 (by kernel_rfl)), nextG _ trivial⟩
  · intro i o L vs W j want ho hli haft hg hv hI
    have hi12 : i < 12 := (Array.getElem?_eq_some_iff.1 ho).1
    rcases i with _ | _ | _ | _ | _ | _ | _ | _ | _ | _ | _ | _ | i
    all_goals (first | omega | skip)
    all_goals simp only [List.getElem?_toArray, List.getElem?_cons_zero, List.getElem?_cons_succ, Option.some.injEq] at ho
    all_goals subst ho
    all_goals simp only [reduceCtorEq] at hg
  intro vs W1 hI
  obtain ⟨b1, hS, _⟩ := hI
  obtain ⟨e10, e11, hC⟩ := hS.all rfl rfl rfl rfl
  obtain ⟨h4, h9⟩ := hC
  rw [h4] at e10
  rw [h9] at e11
  have HB1 := Lib.hid (HB0.out.trans (b1.mono HB0.out.size))
  clear hS b1
  simp only [putList, putSel, if_true, e10, e11, h4, h9]
  generalize vs 0 = x0 at *
  generalize vs 1 = x1 at *
  generalize vs 2 = x2 at *
  generalize vs 3 = x3 at *
  generalize vs 5 = x5 at *
  generalize vs 6 = x6 at *
  generalize vs 7 = x7 at *
  generalize vs 8 = x8 at *
  clear e10 e11 h4 h9
  go_wp2_with fail
  refine (works_any _).mono ?_
  rintro e W2 ⟨rfl, b2⟩
  have B2 := Lib.hid (below_step HB1.out b2)
  clear b2
  go_wp2_with fail
  go_ret
  exact ⟨rfl, B2.out⟩

set_option maxRecDepth 100000 in
set_option maxHeartbeats 6400000 in
theorem plays_some (A : Option Addr) (c : Nat) (zs : List ActV) (n : Nat) (b : Int) (h0 : 1 ≤ n) (h1 : n ≤ 1024) (r0 : 0 ≤ b) (r1 : b ≤ 9223372036854775807) (cp : Int) (w2 : (Lit.int .u8 cp).wf = true) (w : World) (hl : zs.length ≤ 9223372036854775807) (hT : ActsAt w A zs) :
    Calls Try.prog 3 #[.slice A zs.length c, .agg #[.int .i64 (n : Int), .int .i64 b], .int .u8 cp] w (okB true w) := by
  have hbd := bounds_u8 w2
  obtain ⟨cq, rfl⟩ := Int.eq_ofNat_of_zero_le (show 0 ≤ cp from by omega)
  clear w2
  obtain ⟨co, hco⟩ : ∃ x, x = cq % 100 := ⟨_, rfl⟩
  have hce : (cq : Int) % 100 = (co : Int) := by omega
  have hc100 : co < 100 := by omega
  have HCE := Lib.hid hce
  clear hco hce hbd
  have HT := Lib.hid hT
  obtain ⟨S120, hS120⟩ : ∃ s, str (dat 120) = s := ⟨_, rfl⟩
  have HS120 := Lib.hid hS120
  have LS120 : Hid (bl S120 = dat 120) := by unfold Hid; rw [← hS120, bl_str]
  clear hS120 hT
  obtain ⟨a, ha⟩ : ∃ a : Int, a = (n : Int) := ⟨_, rfl⟩
  rw [← ha]
  obtain ⟨w0, hw0⟩ : ∃ x, w.alloc (.cells #[.int .i64 a, .int .i64 b] 23) = x := ⟨_, rfl⟩
  have HW0 := Lib.hid hw0
  have hb0 : Below w.heap.size w w0 := by rw [← hw0]; exact (Below.refl w.heap.size w).alloc (Nat.le_refl _) _
  have HB0 := Lib.hid hb0
  have c4 : ∀ W, Below w0.heap.size w0 W → Calls Try.prog 4 #[.int .i64 a, .int .i64 b] W fun e W' => ∃ v, e = .returned v ∧ SomeA w0.heap.size (DD.new n b) v W' ∧ Below W.heap.size W W' := fun W hW => by
    subst ha
    refine (new_some 200 n b h0 h1 r0 r1 W).mono ?_
    rintro e W' ⟨p, own, rfl, g1, g2, g3⟩
    exact ⟨_, rfl, ⟨p, own, rfl, g1, fun k hk => Nat.le_trans hW.size (g3 k hk)⟩, g2⟩
  have c9 : ∀ W v, Below w0.heap.size w0 W → SomeA w0.heap.size (DD.new n b) v W → Calls Try.prog 5 #[.int .i64 a, .int .i64 b] W fun e W' => ∃ v', e = .returned v' ∧ SomeC w0.heap.size (DD.new n b) v v' W' ∧ Below W.heap.size W W' := fun W v hW hv => by
    subst ha
    obtain ⟨p, own, rfl, g1, g2⟩ := hv
    refine (rnew_some 200 n b h0 h1 r0 r1 W).mono ?_
    rintro e W' ⟨r, own2, rfl, k1, k2, k3⟩
    exact ⟨_, rfl, ⟨p, r, rfl, rfl, Both.make g1 k1 k2 g2 k3 hW.size⟩, k2⟩
  clear hb0 ha
  go_enter Try.func3, Try.ntmps3
  go_wp2_with fail
  clear hw0
  refine wp_region_inv (by kernel_rfl) [11, 12, 13, 14, 15, 16, 17, 18, 19, 20, 7, 8] (by kernel_rfl) (fun L vs W => Below w0.heap.size w0 W ∧ SeqI (SomeA w0.heap.size (DD.new n b)) (SomeC w0.heap.size (DD.new n b)) L vs W ∧ ∀ i, L i = true → i < 12 → NewG w.heap.size a b i (vs i)) ⟨(Below.refl w0.heap.size w0).drew, SeqI.start _ _ _ _, fun i hi => by cases hi⟩ ?_ ?_ ?_
  · intro i o L vs ρ W ho hli haft hρ hgd hI
    obtain ⟨b0, hS, hG'⟩ := hI
    have hG : ∀ j, L j = true → NewG w.heap.size a b j (vs j) := fun j hj => by
      by_cases h12 : j < 12
      · exact hG' j hj h12
      · match j, h12 with
        | j + 12, _ => exact trivial
    have hi12 : i < 12 := (Array.getElem?_eq_some_iff.1 ho).1
    have hc := hρ.const
    have hfn := hρ.fn
    have nextG : ∀ v, NewG w.heap.size a b i v → ∀ j, updB L i j = true → j < 12 → NewG w.heap.size a b j (updV vs i v j) := fun v h2 j hj h12 => by
      by_cases hji : j = i
      · subst hji
        simpa [updV] using h2
      · simp only [updB, if_neg hji] at hj
        simpa [updV, hji] using hG' j hj h12
    have hK := pair_kept HW0.out b0
    obtain ⟨l0, l1⟩ := hK
    rcases i with _ | _ | _ | _ | _ | _ | _ | _ | _ | _ | _ | _ | i
    all_goals (first | omega | skip)
    all_goals simp only [List.getElem?_toArray, List.getElem?_cons_zero, List.getElem?_cons_succ, Option.some.injEq] at ho
    all_goals subst ho
    · have o4 : ρ (.tmp 4) = .pointer (some ⟨w.heap.size, 0, none⟩) := hρ.out 4 rfl
      exact stepTo_value (w' := W) (by unfold execOp; simp only [o4, hc]; go_simp) ⟨b0, hS.other _ _ (by decide) (by decide) (by decide) (by decide), nextG _ rfl⟩
    · have g11 : NewG w.heap.size a b 0 (vs 0) := hG 0 (haft 0 (by kernel_rfl))
      have s11 : ρ (.tmp 11) = .pointer (some ⟨w.heap.size, 0, none⟩) := (hρ.at_ 11 0 rfl).trans g11
      exact stepTo_value (w' := W) (by unfold execOp; simp only [s11, hc]; go_simp) ⟨b0, hS.other _ _ (by decide) (by decide) (by decide) (by decide), nextG _ rfl⟩
    · have o4 : ρ (.tmp 4) = .pointer (some ⟨w.heap.size, 0, none⟩) := hρ.out 4 rfl
      exact stepTo_value (w' := W) (by unfold execOp; simp only [o4, hc]; go_simp) ⟨b0, hS.other _ _ (by decide) (by decide) (by decide) (by decide), nextG _ rfl⟩
    · have g13 : NewG w.heap.size a b 2 (vs 2) := hG 2 (haft 2 (by kernel_rfl))
      have s13 : ρ (.tmp 13) = .pointer (some ⟨w.heap.size, 1, none⟩) := (hρ.at_ 13 2 rfl).trans g13
      exact stepTo_value (w' := W) (by unfold execOp; simp only [s13, hc]; go_simp) ⟨b0, hS.other _ _ (by decide) (by decide) (by decide) (by decide), nextG _ rfl⟩
    · have g12 : NewG w.heap.size a b 1 (vs 1) := hG 1 (haft 1 (by kernel_rfl))
      have s12 : ρ (.tmp 12) = .int .i64 a := (hρ.at_ 12 1 rfl).trans g12
      have g14 : NewG w.heap.size a b 3 (vs 3) := hG 3 (haft 3 (by kernel_rfl))
      have s14 : ρ (.tmp 14) = .int .i64 b := (hρ.at_ 14 3 rfl).trans g14
      refine stepTo_enter (f := 4) (args := #[.int .i64 a, .int .i64 b]) (w' := W) (by unfold execOp; simp only [hfn, s12, s14]; go_simp) ((c4 W b0).mono ?_)
      rintro x W' ⟨v, rfl, hv, hb'⟩
      exact ⟨v, rfl, below_step b0 hb', hS.s4 hli hv, nextG _ trivial⟩
    · have o4 : ρ (.tmp 4) = .pointer (some ⟨w.heap.size, 0, none⟩) := hρ.out 4 rfl
      exact stepTo_value (w' := W) (by unfold execOp; simp only [o4, hc]; go_simp) ⟨b0, hS.other _ _ (by decide) (by decide) (by decide) (by decide), nextG _ rfl⟩
    · have g16 : NewG w.heap.size a b 5 (vs 5) := hG 5 (haft 5 (by kernel_rfl))
      have s16 : ρ (.tmp 16) = .pointer (some ⟨w.heap.size, 0, none⟩) := (hρ.at_ 16 5 rfl).trans g16
      exact stepTo_value (w' := W) (by unfold execOp; simp only [s16, hc]; go_simp) ⟨b0, hS.other _ _ (by decide) (by decide) (by decide) (by decide), nextG _ rfl⟩
    · have o4 : ρ (.tmp 4) = .pointer (some ⟨w.heap.size, 0, none⟩) := hρ.out 4 rfl
      exact stepTo_value (w' := W) (by unfold execOp; simp only [o4, hc]; go_simp) ⟨b0, hS.other _ _ (by decide) (by decide) (by decide) (by decide), nextG _ rfl⟩
    · have g18 : NewG w.heap.size a b 7 (vs 7) := hG 7 (haft 7 (by kernel_rfl))
      have s18 : ρ (.tmp 18) = .pointer (some ⟨w.heap.size, 1, none⟩) := (hρ.at_ 18 7 rfl).trans g18
      exact stepTo_value (w' := W) (by unfold execOp; simp only [s18, hc]; go_simp) ⟨b0, hS.other _ _ (by decide) (by decide) (by decide) (by decide), nextG _ rfl⟩
    · have g17 : NewG w.heap.size a b 6 (vs 6) := hG 6 (haft 6 (by kernel_rfl))
      have s17 : ρ (.tmp 17) = .int .i64 a := (hρ.at_ 17 6 rfl).trans g17
      have g19 : NewG w.heap.size a b 8 (vs 8) := hG 8 (haft 8 (by kernel_rfl))
      have s19 : ρ (.tmp 19) = .int .i64 b := (hρ.at_ 19 8 rfl).trans g19
      have y4 : L 4 = true := haft 4 (by kernel_rfl)
      refine stepTo_enter (f := 5) (args := #[.int .i64 a, .int .i64 b]) (w' := W) (by unfold execOp; simp only [hfn, s17, s19]; go_simp) ((c9 W (vs 4) b0 (hS.a y4 hli)).mono ?_)
      rintro x W' ⟨v, rfl, hv, hb'⟩
      exact ⟨v, rfl, below_step b0 hb', hS.s9 y4 hli hv, nextG _ trivial⟩
    · have s15 : ρ (.tmp 15) = vs 4 := hρ.at_ 15 4 rfl
      exact stepTo_value (w' := W) (by unfold execOp; simp only [s15]; go_simp) ⟨b0, hS.s10 (haft 9 (by kernel_rfl)) hli, nextG _ trivial⟩
    · have s20 : ρ (.tmp 20) = vs 9 := hρ.at_ 20 9 rfl
      exact stepTo_value (w' := W) (by unfold execOp; simp only [s20]; go_simp) ⟨b0, hS.s11 (haft 10 (by kernel_rfl)), nextG _ trivial⟩
  · intro i o L vs W j want ho hli haft hg hv hI
    have hi12 : i < 12 := (Array.getElem?_eq_some_iff.1 ho).1
    rcases i with _ | _ | _ | _ | _ | _ | _ | _ | _ | _ | _ | _ | i
    all_goals (first | omega | skip)
    all_goals simp only [List.getElem?_toArray, List.getElem?_cons_zero, List.getElem?_cons_succ, Option.some.injEq] at ho
    all_goals subst ho
    all_goals simp only [reduceCtorEq] at hg
  intro vs W1 hI
  obtain ⟨b1, hS, _⟩ := hI
  obtain ⟨e10, e11, hC⟩ := hS.all rfl rfl rfl rfl
  obtain ⟨p, r, h4, h9, hbo⟩ := hC
  rw [h4] at e10
  rw [h9] at e11
  have HBo := Lib.hid hbo
  have HB1 := Lib.hid b1
  clear hS hbo b1
  simp only [putList, putSel, if_true, e10, e11, h4, h9]
  generalize vs 0 = x0 at *
  generalize vs 1 = x1 at *
  generalize vs 2 = x2 at *
  generalize vs 3 = x3 at *
  generalize vs 5 = x5 at *
  generalize vs 6 = x6 at *
  generalize vs 7 = x7 at *
  generalize vs 8 = x8 at *
  clear e10 e11 h4 h9 c4 c9
  go_wp2_with fail
  go_loopw [7, 8, 9] (fun v u i wr => PlayRel zs w0 v u i wr) (fun _ _ i _ => 101 - (intOf i).toNat)
  case atStart => exact ⟨0, _, p, r, Nat.zero_le _, Nat.zero_le _, rfl, rfl, rfl, HBo.out, Nat.zero_le _, HB1.out⟩
  case round =>
    obtain ⟨k, d, p', r', hk, hk100, rfl, rfl, rfl, hbo, hml, hB⟩ := hrel
    have H1 := Lib.hid hbo
    have B1 := Lib.hid hB
    clear hbo hB HBo HB1
    by_cases hgo : k < zs.length ∧ k < 100
    · obtain ⟨hlt, hlt2⟩ := hgo
      have hkl : (k : Int) < (zs.length : Int) := by omega
      have hk1 : (k : Int) < 100 := by omega
      by_cases hcopy : k = co
      · subst hcopy
        have hce := HCE.out
        obtain ⟨own, own2, g1, g2, g3, g4, g5⟩ := H1.out
        have G1 := Lib.hid g1
        have G2 := Lib.hid g2
        have hmake : ∀ (W3 : World) (q : Nat) (own3 : Nat → Prop), DkIs 200 W3 own3 q d → Below wr.heap.size wr W3 → (∀ j, own3 j → wr.heap.size ≤ j) → Trio w0.heap.size own2 own3 p' r' q d d w0 W3 := fun W3 q own3 k1 k2 k3 => by
          refine ⟨⟨own, G1.out.below k2, fun j hj => ⟨g4 j hj, g3 j hj, fun hh => ?_⟩⟩, G2.out.below k2, k1, B1.out.trans (k2.mono B1.out.size), fun j hj => Nat.le_trans B1.out.size (k3 j hj), g5, Nat.le_refl _⟩
          have := k3 j hh
          have := G1.out.low j hj
          omega
        have HMK := Lib.hid hmake
        clear g1 g2 g3 g4 g5 hmake
        go_wp2_with fail
        refine (copy_any G1.out (by decide)).mono ?_
        rintro e W3 ⟨q, own3, rfl, k1, k2, k3⟩
        have T3 := Lib.hid (HMK.out W3 q own3 k1 k2 k3)
        clear k1 k2 k3 HMK
        go_wp2_with fail
        refine (off_g T3.out.1 T3.out.big _ rfl).mono ?_
        rintro e W4 ⟨rfl, i4, b4⟩
        have T4 := Lib.hid (T3.out.next i4 b4)
        clear i4 b4
        go_wp2_with fail
        refine (wake_g T4.out.1 T4.out.big (by decide) none 0 0 [] rfl (fun i h => absurd h (by simp)) (fun b o h => by cases h) _ rfl).mono ?_
        rintro e W5 ⟨rfl, i5, b5⟩
        have T5 := Lib.hid (T4.out.next i5 b5)
        clear i5 b5
        go_wp2_with fail
        refine (data_any 120 _).mono ?_
        rintro e W6 ⟨rfl, b6⟩
        rw [HS120.out]
        have T6 := Lib.hid (T5.out.below b6)
        clear b6
        go_wp2_with fail
        refine (write_g T6.out.1 T6.out.big (by simp [DD.off, DD.wake]) (by decide) 0 S120 (dat 120) LS120.out _ _ rfl rfl).mono ?_
        rintro e W7 ⟨rfl, i7, b7⟩
        have T7 := Lib.hid (T6.out.next i7 b7)
        clear i7 b7
        go_wp2_with fail
        refine (room_g T7.out.1 T7.out.big 0 (by decide) _ rfl).mono ?_
        rintro e W8 ⟨rfl, i8, b8⟩
        have T8 := Lib.hid (T7.out.next i8 b8)
        clear i8 b8
        go_wp2_with fail
        refine (rcopy_any T8.out.2.1 (by decide)).mono ?_
        rintro e W9 ⟨r9, own9, rfl, k1, k2, k3⟩
        have H9 := Lib.hid (T8.out.made k1 k2 k3)
        have B9 := Lib.hid (T8.out.2.2.2.1.trans (k2.mono (Nat.le_trans T8.out.2.2.2.2.2.2 T8.out.2.2.2.1.size)))
        clear k1 k2 k3 T3 T4 T5 T6 T7 T8 G1 G2 H1 B1
        obtain ⟨bb, bo, rfl, hbb, q0, q1, q2, q3, qa, qb, qc, qd⟩ := HT.out k hlt
        have hmore := act_more d zs[k]
        generalize zs[k] = x at *
        obtain ⟨what, at_, ch, A2, cap, keep⟩ := x
        dsimp only at *
        have BW := Lib.hid (HB0.out.trans (B9.out.mono HB0.out.size))
        have hbw : bb < W9.heap.size := Nat.lt_of_lt_of_le hbb BW.out.size
        have e0 : W9.cell? ⟨bb, bo + k * 4, none⟩ = some (.int .i64 what) := by rw [BW.out.cell (p := ⟨bb, bo + k * 4, none⟩) hbb]; exact q0
        have e1 : W9.cell? ⟨bb, bo + k * 4 + 1, none⟩ = some (.int .i64 at_) := by rw [BW.out.cell (p := ⟨bb, bo + k * 4 + 1, none⟩) hbb]; exact q1
        have e2 : W9.cell? ⟨bb, bo + k * 4 + 2, none⟩ = some (.int .u8 (ch.toNat : Int)) := by rw [BW.out.cell (p := ⟨bb, bo + k * 4 + 2, none⟩) hbb]; exact q2
        have e3 : W9.cell? ⟨bb, bo + k * 4 + 3, none⟩ = some (.slice A2 keep.length cap) := by rw [BW.out.cell (p := ⟨bb, bo + k * 4 + 3, none⟩) hbb]; exact q3
        have hkk : ∀ b o, A2 = some ⟨b, o, none⟩ → 0 < keep.length → b < w.heap.size := fun b o hA hl => by
          obtain ⟨b', o', h1, h2, _⟩ := qc 0 hl
          rw [hA] at h1
          simp only [Option.some.injEq, Addr.mk.injEq] at h1
          omega
        have HKB := Lib.hid (bools_low qc hkk BW.out)
        have HKK := Lib.hid hkk
        have HQ1 := Lib.hid q1
        clear q0 q1 q2 q3 qc hkk
        go_wp2_with fail
        refine (act_any H9.out B9.out.size (by decide) (by omega) ⟨what, at_, ch, A2, cap, keep⟩ qb.2 HKB.out (fun b o hA hl => Nat.lt_of_lt_of_le (HKK.out b o hA hl) HB0.out.size)).mono ?_
        rintro e W5 ⟨rfl, h5, b5⟩
        generalize d.act ⟨what, at_, ch, A2, cap, keep⟩ = d2 at *
        have H5 := Lib.hid h5
        have BW5 := Lib.hid (BW.out.trans (b5.mono HB0.out.size))
        have B5 := Lib.hid (B9.out.trans b5)
        have hc5 : W5.cell? ⟨bb, bo + k * 4 + 1, none⟩ = some (.int .i64 at_) := by rw [BW5.out.cell (p := ⟨bb, bo + k * 4 + 1, none⟩) hbb]; exact HQ1.out
        have hbw5 : bb < W5.heap.size := Nat.lt_of_lt_of_le hbb BW5.out.size
        clear h5 b5 H9 e0 e1 e2 e3 HKB HKK
        go_wp2_with fail
        refine (same_any H5.out at_ qb.1 qb.2).mono ?_
        rintro e W6 ⟨rfl, b6⟩
        have H6 := Lib.hid (H5.out.below b6)
        have B6 := Lib.hid (B5.out.trans (b6.mono B5.out.size))
        clear b6 H5 B5 hc5
        go_wp2_with fail
        refine (same_any H6.out ((k : Int) % 8) (by omega) (by omega)).mono ?_
        rintro e W7 ⟨rfl, b7⟩
        have H7 := Lib.hid (H6.out.below b7)
        have B7 := Lib.hid (B6.out.trans (b7.mono B6.out.size))
        clear b7 H6 B6
        go_wp2_with fail
        go_roundw
        case rel => exact ⟨k + 1, d2, q, r9, by omega, by omega, rfl, rfl, by go_num, H7.out, by omega, B7.out⟩
        case measure => simp [intOf]; omega
      · have hce := HCE.out
        have hceq : ((k : Int) == (co : Int)) = false := by simp; omega
        have H9 := Lib.hid H1.out
        have B9 := Lib.hid B1.out
        clear H1 B1
        obtain ⟨bb, bo, rfl, hbb, q0, q1, q2, q3, qa, qb, qc, qd⟩ := HT.out k hlt
        have hmore := act_more d zs[k]
        generalize zs[k] = x at *
        obtain ⟨what, at_, ch, A2, cap, keep⟩ := x
        dsimp only at *
        have BW := Lib.hid (HB0.out.trans (B9.out.mono HB0.out.size))
        have hbw : bb < wr.heap.size := Nat.lt_of_lt_of_le hbb BW.out.size
        have e0 : wr.cell? ⟨bb, bo + k * 4, none⟩ = some (.int .i64 what) := by rw [BW.out.cell (p := ⟨bb, bo + k * 4, none⟩) hbb]; exact q0
        have e1 : wr.cell? ⟨bb, bo + k * 4 + 1, none⟩ = some (.int .i64 at_) := by rw [BW.out.cell (p := ⟨bb, bo + k * 4 + 1, none⟩) hbb]; exact q1
        have e2 : wr.cell? ⟨bb, bo + k * 4 + 2, none⟩ = some (.int .u8 (ch.toNat : Int)) := by rw [BW.out.cell (p := ⟨bb, bo + k * 4 + 2, none⟩) hbb]; exact q2
        have e3 : wr.cell? ⟨bb, bo + k * 4 + 3, none⟩ = some (.slice A2 keep.length cap) := by rw [BW.out.cell (p := ⟨bb, bo + k * 4 + 3, none⟩) hbb]; exact q3
        have hkk : ∀ b o, A2 = some ⟨b, o, none⟩ → 0 < keep.length → b < w.heap.size := fun b o hA hl => by
          obtain ⟨b', o', h1, h2, _⟩ := qc 0 hl
          rw [hA] at h1
          simp only [Option.some.injEq, Addr.mk.injEq] at h1
          omega
        have HKB := Lib.hid (bools_low qc hkk BW.out)
        have HKK := Lib.hid hkk
        have HQ1 := Lib.hid q1
        clear q0 q1 q2 q3 qc hkk
        go_wp2_with fail
        refine (act_any H9.out B9.out.size (by decide) (by omega) ⟨what, at_, ch, A2, cap, keep⟩ qb.2 HKB.out (fun b o hA hl => Nat.lt_of_lt_of_le (HKK.out b o hA hl) HB0.out.size)).mono ?_
        rintro e W5 ⟨rfl, h5, b5⟩
        generalize d.act ⟨what, at_, ch, A2, cap, keep⟩ = d2 at *
        have H5 := Lib.hid h5
        have BW5 := Lib.hid (BW.out.trans (b5.mono HB0.out.size))
        have B5 := Lib.hid (B9.out.trans b5)
        have hc5 : W5.cell? ⟨bb, bo + k * 4 + 1, none⟩ = some (.int .i64 at_) := by rw [BW5.out.cell (p := ⟨bb, bo + k * 4 + 1, none⟩) hbb]; exact HQ1.out
        have hbw5 : bb < W5.heap.size := Nat.lt_of_lt_of_le hbb BW5.out.size
        clear h5 b5 H9 e0 e1 e2 e3 HKB HKK
        go_wp2_with fail
        refine (same_any H5.out at_ qb.1 qb.2).mono ?_
        rintro e W6 ⟨rfl, b6⟩
        have H6 := Lib.hid (H5.out.below b6)
        have B6 := Lib.hid (B5.out.trans (b6.mono B5.out.size))
        clear b6 H5 B5 hc5
        go_wp2_with fail
        refine (same_any H6.out ((k : Int) % 8) (by omega) (by omega)).mono ?_
        rintro e W7 ⟨rfl, b7⟩
        have H7 := Lib.hid (H6.out.below b7)
        have B7 := Lib.hid (B6.out.trans (b7.mono B6.out.size))
        clear b7 H6 B6
        go_wp2_with fail
        go_roundw
        case rel => exact ⟨k + 1, d2, p', r', by omega, by omega, rfl, rfl, by go_num, H7.out, by omega, B7.out⟩
        case measure => simp [intOf]; omega
    · have hno : ¬ ((k : Int) < (zs.length : Int)) ∨ ¬ ((k : Int) < 100) := by omega
      have B9 := Lib.hid (HB0.out.trans (B1.out.mono HB0.out.size))
      clear H1 B1
      by_cases hkl : (k : Int) < (zs.length : Int)
      · have hk1 : ¬ ((k : Int) < 100) := by omega
        go_wp2_with fail
        refine (works_any _).mono ?_
        rintro e W2 ⟨rfl, b2⟩
        have B2 := Lib.hid (below_step B9.out b2)
        clear b2
        go_wp2_with fail
        go_ret
        exact ⟨rfl, B2.out⟩
      · go_wp2_with fail
        refine (works_any _).mono ?_
        rintro e W2 ⟨rfl, b2⟩
        have B2 := Lib.hid (below_step B9.out b2)
        clear b2
        go_wp2_with fail
        go_ret
        exact ⟨rfl, B2.out⟩

theorem diskPlays_walk (A : Option Addr) (c : Nat) (zs : List ActV) (a b : Int) (ha : -9223372036854775808 ≤ a ∧ a ≤ 9223372036854775807) (hb : -9223372036854775808 ≤ b ∧ b ≤ 9223372036854775807) (cp : Int) (w2 : (Lit.int .u8 cp).wf = true) (w : World) (hl : zs.length ≤ 9223372036854775807) (hT : ActsAt w A zs) :
    Calls Try.prog 3 #[.slice A zs.length c, .agg #[.int .i64 a, .int .i64 b], .int .u8 cp] w (okB true w) := by
  by_cases h : a < 1 ∨ 1024 < a ∨ b < 0
  · exact plays_none A _ c a b h cp w
  · obtain ⟨n, rfl⟩ := Int.eq_ofNat_of_zero_le (show 0 ≤ a from by omega)
    exact plays_some A c zs n b (by omega) (by omega) (by omega) hb.2 cp w2 w hl hT
end Go.Proofs.Ytbpkgfhhoejmcaa.dk
