/- What do of the statements does: the two Writes. -/
import Derived.Test.YtbpkgfhhoejmcaaDkDo
namespace Go.Proofs.Ytbpkgfhhoejmcaa.dk
open Go Go.RowKit

section
variable {most : Nat} {w : World} {B p r : Nat} {d : DD}

/-- What the operations of a Write to both disks yield. -/
def DoG (p r g : Nat) (at_ c : Int) (S : ByteArray) (er : Int) : Nat → Value → Prop
  | 0, v => v = .pointer (some ⟨p, 0, none⟩)
  | 1, v => v = .pointer (some ⟨g, 1, none⟩)
  | 2, v => v = .int .i64 at_
  | 3, v => v = .pointer (some ⟨g, 2, none⟩)
  | 4, v => v = .int .u8 c
  | 5, v => v = .string S
  | 6, v => v = .int .i64 er
  | 7, v => v = .pointer (some ⟨r, 0, none⟩)
  | 8, v => v = .pointer (some ⟨g, 1, none⟩)
  | 9, v => v = .int .i64 at_
  | 10, v => v = .pointer (some ⟨g, 2, none⟩)
  | 11, v => v = .int .u8 c
  | 12, v => v = .string S
  | 13, v => v = .int .i64 er
  | 14, v => v = .bool true
  | 15, v => v = .bool true
  | _, _ => True

set_option maxRecDepth 100000 in
set_option maxHeartbeats 6400000 in
theorem do_write (h : Both most w B p r d d) (hB : B ≤ w.heap.size) (hmost : most ≤ 100000) (hm : d.more.length < most) (what : Int) (hw : what = 0 ∨ what = 1 ∨ what = 2 ∨ what = 3) (at_ : Int) (c : UInt8) (A : Option Addr) (cap : Nat) (keep : List Bool) :
    Calls Try.prog 14 #[.pointer (some ⟨p, 0, none⟩), .pointer (some ⟨r, 0, none⟩), (ActV.mk what at_ c A cap keep).val] w (TwoPost most B p r (d.write at_ (dat c)).2 (d.write at_ (dat c)).2 (.bool true) w) := by
  have hb0 : Below w.heap.size w (w.alloc (actBlk ⟨what, at_, c, A, cap, keep⟩)) := (Below.refl w.heap.size w).alloc (Nat.le_refl _) _
  have HG := Lib.hid ((h.toG.wide (G' := GB B w.heap.size) (fun k hk => ⟨hk.1, by omega⟩)).below hb0)
  have HB := Lib.hid (hb0.mono hB)
  have hA : Blk (w.alloc (actBlk ⟨what, at_, c, A, cap, keep⟩)) w.heap.size _ _ := Blk.new w _ _
  have hlt : w.heap.size < (w.alloc (actBlk ⟨what, at_, c, A, cap, keep⟩)).heap.size := hA.lt
  obtain ⟨w0, hw0⟩ : ∃ x, w.alloc (actBlk ⟨what, at_, c, A, cap, keep⟩) = x := ⟨_, rfl⟩
  rw [hw0] at HG HB hA hlt
  clear hb0
  have HA := Lib.hid hA
  clear hA
  obtain ⟨S, hS⟩ : ∃ s, str (dat c) = s := ⟨_, rfl⟩
  have HS2 : Hid (bl S = dat c) := by unfold Hid; rw [← hS, bl_str]
  have HS := Lib.hid hS
  clear hS
  obtain ⟨er, hE⟩ : ∃ x, (d.write at_ (dat c)).1 = x := ⟨_, rfl⟩
  have HE := Lib.hid (congrArg (Value.int .i64) hE)
  clear hE
  rcases hw with rfl | rfl | rfl | rfl
  all_goals
    unfold ActV.val
    go_enter Try.func14, Try.ntmps14
    go_wp2_with fail
    simp only [actBlk] at hw0
    rw [hw0]
    clear hw0
    refine wp_region_inv (by kernel_rfl) [14, 15, 16, 17, 18, 19, 20, 21, 22, 23, 24, 25, 26, 27, 28, 6] (by kernel_rfl) (fun L vs W => But (GB B w.heap.size) w0 W ∧ BothG most W (GB B w.heap.size) p r (if L 6 then (d.write at_ (dat c)).2 else d) (if L 13 then (d.write at_ (dat c)).2 else d) ∧ ((L 12 = true → L 6 = true) ∧ (L 13 = true → L 12 = true)) ∧ ∀ i, L i = true → i < 16 → DoG p r w.heap.size at_ (c.toNat : Int) S er i (vs i)) ⟨(But.refl _ _).drew, HG.out.below (Below.refl _ _).drew, ⟨fun h => (by cases h), fun h => (by cases h)⟩, fun i hi => by cases hi⟩ ?_ ?_ ?_
    · intro i o L vs ρ W ho hli haft hρ hgd hI
      obtain ⟨b0, hTw, ⟨hC1, hC2⟩, hG'⟩ := hI
      have hG : ∀ j, L j = true → DoG p r w.heap.size at_ (c.toNat : Int) S er j (vs j) := fun j hj => by
        by_cases h16 : j < 16
        · exact hG' j hj h16
        · match j, h16 with
          | j + 16, _ => exact trivial
      have hi16 : i < 16 := (Array.getElem?_eq_some_iff.1 ho).1
      have hc := hρ.const
      have hfn := hρ.fn
      have nextG : ∀ v, DoG p r w.heap.size at_ (c.toNat : Int) S er i v → ∀ j, updB L i j = true → j < 16 → DoG p r w.heap.size at_ (c.toNat : Int) S er j (updV vs i v j) := fun v h2 j hj h16 => by
        by_cases hji : j = i
        · subst hji
          simpa [updV] using h2
        · simp only [updB, if_neg hji] at hj
          simpa [updV, hji] using hG' j hj h16
      have hC : (i = 12 → L 6 = true) → (i = 13 → L 12 = true) → (updB L i 12 = true → updB L i 6 = true) ∧ (updB L i 13 = true → updB L i 12 = true) := fun k1 k2 => by
        simp only [updB]
        constructor
        · intro h
          split at h
          · split
            · rfl
            · exact k1 (by omega)
          · split
            · rfl
            · exact hC1 h
        · intro h
          split at h
          · split
            · rfl
            · exact k2 (by omega)
          · split
            · rfl
            · exact hC2 h
      have next : (i = 12 → L 6 = true) → i ≠ 6 → i ≠ 13 → ∀ v W', But (GB B w.heap.size) W W' → BothG most W' (GB B w.heap.size) p r (if L 6 then (d.write at_ (dat c)).2 else d) (if L 13 then (d.write at_ (dat c)).2 else d) → DoG p r w.heap.size at_ (c.toNat : Int) S er i v →
          But (GB B w.heap.size) w0 W' ∧ BothG most W' (GB B w.heap.size) p r (if updB L i 6 then (d.write at_ (dat c)).2 else d) (if updB L i 13 then (d.write at_ (dat c)).2 else d) ∧ ((updB L i 12 = true → updB L i 6 = true) ∧ (updB L i 13 = true → updB L i 12 = true)) ∧ ∀ j, updB L i j = true → j < 16 → DoG p r w.heap.size at_ (c.toNat : Int) S er j (updV vs i v j) := fun k1 n6 n13 v W' h1 h2 h3 => by
        refine ⟨b0.trans h1 (fun i hi => .inl hi), ?_, hC k1 (fun h => absurd h n13), nextG v h3⟩
        simp only [updB, if_neg (Ne.symm n6), if_neg (Ne.symm n13)]
        exact h2
      have hA1 : Blk W w.heap.size _ _ := HA.out.of_block (b0.block _ hlt (fun hx => hx.2 rfl))
      have hltW := hA1.lt
      have l1 := hA1.cell 1
      have l2 := hA1.cell 2
      rcases i with _ | _ | _ | _ | _ | _ | _ | _ | _ | _ | _ | _ | _ | _ | _ | _ | i
      all_goals (first | omega | skip)
      all_goals simp only [List.getElem?_toArray, List.getElem?_cons_zero, List.getElem?_cons_succ, Option.some.injEq] at ho
      all_goals subst ho
      · have o0 : ρ (.tmp 0) = .pointer (some ⟨p, 0, none⟩) := hρ.out 0 rfl
        exact stepTo_value (w' := W) (by unfold execOp; simp only [o0, hc]; go_simp) (next (fun h => absurd h (by decide)) (by decide) (by decide) _ _ (But.refl _ _) hTw rfl)
      · have o5 : ρ (.tmp 5) = .pointer (some ⟨w.heap.size, 0, none⟩) := hρ.out 5 rfl
        exact stepTo_value (w' := W) (by unfold execOp; simp only [o5, hc]; go_simp) (next (fun h => absurd h (by decide)) (by decide) (by decide) _ _ (But.refl _ _) hTw rfl)
      · have g15 : DoG p r w.heap.size at_ (c.toNat : Int) S er 1 (vs 1) := hG 1 (haft 1 (by kernel_rfl))
        have s15 : ρ (.tmp 15) = .pointer (some ⟨w.heap.size, 1, none⟩) := (hρ.at_ 15 1 rfl).trans g15
        exact stepTo_value (w' := W) (by unfold execOp; simp only [s15]; go_simp) (next (fun h => absurd h (by decide)) (by decide) (by decide) _ _ (But.refl _ _) hTw rfl)
      · have o5 : ρ (.tmp 5) = .pointer (some ⟨w.heap.size, 0, none⟩) := hρ.out 5 rfl
        exact stepTo_value (w' := W) (by unfold execOp; simp only [o5, hc]; go_simp) (next (fun h => absurd h (by decide)) (by decide) (by decide) _ _ (But.refl _ _) hTw rfl)
      · have g17 : DoG p r w.heap.size at_ (c.toNat : Int) S er 3 (vs 3) := hG 3 (haft 3 (by kernel_rfl))
        have s17 : ρ (.tmp 17) = .pointer (some ⟨w.heap.size, 2, none⟩) := (hρ.at_ 17 3 rfl).trans g17
        exact stepTo_value (w' := W) (by unfold execOp; simp only [s17]; go_simp) (next (fun h => absurd h (by decide)) (by decide) (by decide) _ _ (But.refl _ _) hTw rfl)
      · have g18 : DoG p r w.heap.size at_ (c.toNat : Int) S er 4 (vs 4) := hG 4 (haft 4 (by kernel_rfl))
        have s18 : ρ (.tmp 18) = .int .u8 (c.toNat : Int) := (hρ.at_ 18 4 rfl).trans g18
        refine stepTo_enter (f := 11) (args := #[.int .u8 (c.toNat : Int)]) (w' := W) (by unfold execOp; simp only [hfn, s18]; go_simp) ((data_any c W).mono ?_)
        rintro x W' ⟨rfl, hb'⟩
        exact ⟨_, rfl, next (fun h => absurd h (by decide)) (by decide) (by decide) _ _ (But.of_below hb') (hTw.below hb') (congrArg Value.string HS.out)⟩
      · have g14 : DoG p r w.heap.size at_ (c.toNat : Int) S er 0 (vs 0) := hG 0 (haft 0 (by kernel_rfl))
        have s14 : ρ (.tmp 14) = .pointer (some ⟨p, 0, none⟩) := (hρ.at_ 14 0 rfl).trans g14
        have g16 : DoG p r w.heap.size at_ (c.toNat : Int) S er 2 (vs 2) := hG 2 (haft 2 (by kernel_rfl))
        have s16 : ρ (.tmp 16) = .int .i64 at_ := (hρ.at_ 16 2 rfl).trans g16
        have g19 : DoG p r w.heap.size at_ (c.toNat : Int) S er 5 (vs 5) := hG 5 (haft 5 (by kernel_rfl))
        have s19 : ρ (.tmp 19) = .string S := (hρ.at_ 19 5 rfl).trans g19
        have n13 : L 13 = false := by
          cases hx : L 13 with
          | false => rfl
          | true => exact absurd (hC1 (hC2 hx)) (by rw [hli]; decide)
        rw [hli, n13] at hTw
        refine stepTo_enter (f := 10) (args := #[.pointer (some ⟨p, 0, none⟩), .int .i64 at_, .string S]) (w' := W) (by unfold execOp; simp only [hfn, s14, s16, s19]; go_simp) ((gboth_d hTw (GB.big hB hltW) (fun own hd => write_any hd hm hmost at_ S)).mono ?_)
        rintro x W' ⟨rfl, h1, b1⟩
        rw [HS2.out] at h1 ⊢
        refine ⟨_, rfl, b0.trans b1 (fun i hi => .inl hi), ?_, hC (fun h => absurd h (by decide)) (fun h => absurd h (by decide)), nextG _ HE.out⟩
        simp only [updB, n13]
        exact h1
      · have o1 : ρ (.tmp 1) = .pointer (some ⟨r, 0, none⟩) := hρ.out 1 rfl
        exact stepTo_value (w' := W) (by unfold execOp; simp only [o1, hc]; go_simp) (next (fun h => absurd h (by decide)) (by decide) (by decide) _ _ (But.refl _ _) hTw rfl)
      · have o5 : ρ (.tmp 5) = .pointer (some ⟨w.heap.size, 0, none⟩) := hρ.out 5 rfl
        exact stepTo_value (w' := W) (by unfold execOp; simp only [o5, hc]; go_simp) (next (fun h => absurd h (by decide)) (by decide) (by decide) _ _ (But.refl _ _) hTw rfl)
      · have g22 : DoG p r w.heap.size at_ (c.toNat : Int) S er 8 (vs 8) := hG 8 (haft 8 (by kernel_rfl))
        have s22 : ρ (.tmp 22) = .pointer (some ⟨w.heap.size, 1, none⟩) := (hρ.at_ 22 8 rfl).trans g22
        exact stepTo_value (w' := W) (by unfold execOp; simp only [s22]; go_simp) (next (fun h => absurd h (by decide)) (by decide) (by decide) _ _ (But.refl _ _) hTw rfl)
      · have o5 : ρ (.tmp 5) = .pointer (some ⟨w.heap.size, 0, none⟩) := hρ.out 5 rfl
        exact stepTo_value (w' := W) (by unfold execOp; simp only [o5, hc]; go_simp) (next (fun h => absurd h (by decide)) (by decide) (by decide) _ _ (But.refl _ _) hTw rfl)
      · have g24 : DoG p r w.heap.size at_ (c.toNat : Int) S er 10 (vs 10) := hG 10 (haft 10 (by kernel_rfl))
        have s24 : ρ (.tmp 24) = .pointer (some ⟨w.heap.size, 2, none⟩) := (hρ.at_ 24 10 rfl).trans g24
        exact stepTo_value (w' := W) (by unfold execOp; simp only [s24]; go_simp) (next (fun h => absurd h (by decide)) (by decide) (by decide) _ _ (But.refl _ _) hTw rfl)
      · have g25 : DoG p r w.heap.size at_ (c.toNat : Int) S er 11 (vs 11) := hG 11 (haft 11 (by kernel_rfl))
        have s25 : ρ (.tmp 25) = .int .u8 (c.toNat : Int) := (hρ.at_ 25 11 rfl).trans g25
        refine stepTo_enter (f := 11) (args := #[.int .u8 (c.toNat : Int)]) (w' := W) (by unfold execOp; simp only [hfn, s25]; go_simp) ((data_any c W).mono ?_)
        rintro x W' ⟨rfl, hb'⟩
        exact ⟨_, rfl, next (fun _ => haft 6 (by kernel_rfl)) (by decide) (by decide) _ _ (But.of_below hb') (hTw.below hb') (congrArg Value.string HS.out)⟩
      · have g21 : DoG p r w.heap.size at_ (c.toNat : Int) S er 7 (vs 7) := hG 7 (haft 7 (by kernel_rfl))
        have s21 : ρ (.tmp 21) = .pointer (some ⟨r, 0, none⟩) := (hρ.at_ 21 7 rfl).trans g21
        have g23 : DoG p r w.heap.size at_ (c.toNat : Int) S er 9 (vs 9) := hG 9 (haft 9 (by kernel_rfl))
        have s23 : ρ (.tmp 23) = .int .i64 at_ := (hρ.at_ 23 9 rfl).trans g23
        have g26 : DoG p r w.heap.size at_ (c.toNat : Int) S er 12 (vs 12) := hG 12 (haft 12 (by kernel_rfl))
        have s26 : ρ (.tmp 26) = .string S := (hρ.at_ 26 12 rfl).trans g26
        have y12 : L 12 = true := haft 12 (by kernel_rfl)
        have y6 : L 6 = true := hC1 y12
        rw [hli, y6] at hTw
        refine stepTo_enter (f := 28) (args := #[.pointer (some ⟨r, 0, none⟩), .int .i64 at_, .string S]) (w' := W) (by unfold execOp; simp only [hfn, s21, s23, s26]; go_simp) ((gboth_r hTw (GB.big hB hltW) (fun own hd => rwrite_any hd hm hmost at_ S)).mono ?_)
        rintro x W' ⟨rfl, h1, b1⟩
        rw [HS2.out] at h1 ⊢
        refine ⟨_, rfl, b0.trans b1 (fun i hi => .inl hi), ?_, hC (fun h => absurd h (by decide)) (fun _ => y12), nextG _ HE.out⟩
        simp only [updB, y6]
        exact h1
      · have g20 : DoG p r w.heap.size at_ (c.toNat : Int) S er 6 (vs 6) := hG 6 (haft 6 (by kernel_rfl))
        have s20 : ρ (.tmp 20) = .int .i64 er := (hρ.at_ 20 6 rfl).trans g20
        have g27 : DoG p r w.heap.size at_ (c.toNat : Int) S er 13 (vs 13) := hG 13 (haft 13 (by kernel_rfl))
        have s27 : ρ (.tmp 27) = .int .i64 er := (hρ.at_ 27 13 rfl).trans g27
        exact stepTo_value (w' := W) (by unfold execOp; simp only [s20, s27, hc]; go_simp) (next (fun h => absurd h (by decide)) (by decide) (by decide) _ _ (But.refl _ _) hTw rfl)
      · have g28 : DoG p r w.heap.size at_ (c.toNat : Int) S er 14 (vs 14) := hG 14 (haft 14 (by kernel_rfl))
        have s28 : ρ (.tmp 28) = .bool true := (hρ.at_ 28 14 rfl).trans g28
        exact stepTo_value (w' := W) (by unfold execOp; simp only [s28, hc]; go_simp) (next (fun h => absurd h (by decide)) (by decide) (by decide) _ _ (But.refl _ _) hTw rfl)
    · intro i o L vs W j want ho hli haft hg hv hI
      have hi16 : i < 16 := (Array.getElem?_eq_some_iff.1 ho).1
      rcases i with _ | _ | _ | _ | _ | _ | _ | _ | _ | _ | _ | _ | _ | _ | _ | _ | i
      all_goals (first | omega | skip)
      all_goals simp only [List.getElem?_toArray, List.getElem?_cons_zero, List.getElem?_cons_succ, Option.some.injEq] at ho
      all_goals subst ho
      all_goals simp only [reduceCtorEq] at hg
    · intro vs W hI
      obtain ⟨b0, hTw, _, hG⟩ := hI
      have g15 : vs 15 = .bool true := hG 15 (by decide) (by decide)
      have hTw' : BothG most W (GB B w.heap.size) p r (d.write at_ (dat c)).2 (d.write at_ (dat c)).2 := hTw
      have HT := Lib.hid hTw'
      have HB0 := Lib.hid b0
      clear hTw hTw' hG b0
      go_wp2_with fail
      refine bodyPost_slot 15 rfl (by decide +kernel) (by kernel_rfl) rfl g15 ⟨rfl, HT.out.both (fun k hk => hk.1), HB.out.trans (HB0.out.below (B := B) (fun i hi => hi.1) (by omega))⟩
end
end Go.Proofs.Ytbpkgfhhoejmcaa.dk
