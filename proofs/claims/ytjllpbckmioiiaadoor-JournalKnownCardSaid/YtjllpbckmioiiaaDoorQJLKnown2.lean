/- JKnW. -/
import Derived.Test.YtjllpbckmioiiaaDoorQ19
import Derived.Test.YtjllpbckmioiiaaDoorQ20
import Derived.Test.YtjllpbckmioiiaaDoorQJLKnown1
import Derived.LoopTactic
/- The walk of JournalKnown. -/
namespace Go.Proofs.YtjllpbckmioiiaaDoor.jr
open Go Go.RowKit Go.Proofs.YtjllpbckmioiiaaDoor.dk Go.Proofs.YtjllpbckmioiiaaDoor.wi
set_option maxRecDepth 100000

set_option maxHeartbeats 12800000 in
theorem journalKnown_walk (HW : HeadW) (HR : HeadR) (w : World) (ht : CTab w) : Calls Tryd.prog 5 #[] w (okB true w) := by
  have HT := Lib.hid ht
  have hg := ht.1
  have HHW := Lib.hid HW
  have HHR := Lib.hid HR
  obtain ⟨SA, hsa⟩ : ∃ s, str la = s := ⟨_, rfl⟩
  obtain ⟨SB, hsb⟩ : ∃ s, str lb = s := ⟨_, rfl⟩
  have HSA := Lib.hid hsa
  have HSB := Lib.hid hsb
  have hla : ∀ W, Calls Tryd.prog 23 #[.int .u8 97] W fun e w' => e = .returned (.string SA) ∧ Below W.heap.size W w' := fun W => by
    have := letters_any 97 W
    unfold okT at this
    rw [show rep 97 32 = la from rfl, hsa] at this
    exact this
  have hlb : ∀ W, Calls Tryd.prog 23 #[.int .u8 98] W fun e w' => e = .returned (.string SB) ∧ Below W.heap.size W w' := fun W => by
    have := letters_any 98 W
    unfold okT at this
    rw [show rep 98 32 = lb from rfl, hsb] at this
    exact this
  have HLA := Lib.hid hla
  have HLB := Lib.hid hlb
  clear hla hlb hsa hsb ht HW HR
  go_enter Tryd.func5, Tryd.ntmps5
  go_wp2_with fail
  refine (new_in 400 150 150 (by decide) (by decide) (by decide) (by decide) w).mono ?_
  rintro e W1 ⟨p, rfl, i, b⟩
  have I1 := Lib.hid i
  have B1 := Lib.hid b
  clear i b
  go_wp2_with fail
  refine (recover_in HHR.out I1.out B1.out.size (by decide) (HT.out.below B1.out hg) (by decide) 8 kd0 kd0_rec).mono ?_
  rintro e W2 ⟨rfl, i, b⟩
  have I2 := Lib.hid i
  have B2 := Lib.hid (B1.out.trans b)
  clear i b I1 B1
  go_wp2_with fail
  refine (HLA.out W2).mono ?_
  rintro e W3 ⟨rfl, b⟩
  have I3 := Lib.hid (I2.out.below b)
  have B3 := Lib.hid (below_step B2.out b)
  clear b I2 B2
  go_wp2_with fail
  have b := (Below.refl W3.heap.size W3).alloc (Nat.le_refl _) (.cells #[.int .i64 145, .string SA] 49)
  have I4 := Lib.hid (I3.out.below b)
  have B4 := Lib.hid (below_step B3.out b)
  clear b I3 B3
  refine (commit_in HHW.out HHR.out I4.out B4.out.size (by decide) _ 1 1 [kA] rfl (wsAt_oneS SA 145 la HSA.out (by unfold i64B; omega)) (by decide) (HT.out.below B4.out hg) (by decide) 8 kd0 kd0_com).mono ?_
  rintro e W5 ⟨rfl, i, b⟩
  have I5 := Lib.hid i
  have B5 := Lib.hid (B4.out.trans b)
  clear i b I4 B4
  go_wp2_with fail
  refine (format_in HHW.out I5.out B5.out.size (by decide) 0 kd1 kd1_com).mono ?_
  rintro e W6 ⟨rfl, i, b⟩
  have I6 := Lib.hid i
  have B6 := Lib.hid (B5.out.trans b)
  clear i b I5 B5
  go_wp2_with fail
  refine (recover_in HHR.out I6.out B6.out.size (by rw [kd1_n]; decide) (HT.out.below B6.out hg) kd1_more 0 kd1 kd1_rec).mono ?_
  rintro e W7 ⟨rfl, i, b⟩
  have I7 := Lib.hid i
  have B7 := Lib.hid (B6.out.trans b)
  clear i b I6 B6
  go_wp2_with fail
  refine (HLA.out W7).mono ?_
  rintro e W8 ⟨rfl, b⟩
  have I8 := Lib.hid (I7.out.below b)
  have B8 := Lib.hid (below_step B7.out b)
  clear b I7 B7
  go_wp2_with fail
  refine (HLB.out W8).mono ?_
  rintro e W9 ⟨rfl, b⟩
  have I9 := Lib.hid (I8.out.below b)
  have B9 := Lib.hid (below_step B8.out b)
  clear b I8 B8
  go_wp2_with fail
  -- the two writes
  have bb : Below W9.heap.size W9 ((W9.alloc (.cells #[.int .i64 145, .string SA] 49)).alloc (.cells #[.int .i64 145, .string SB] 49)) := ((Below.refl W9.heap.size W9).alloc (Nat.le_refl _) _).alloc (by simp) _
  have hkA : Blk ((W9.alloc (.cells #[.int .i64 145, .string SA] 49)).alloc (.cells #[.int .i64 145, .string SB] 49)) W9.heap.size 49 #[.int .i64 145, .string SA] := by
    have k := Blk.new W9 49 #[.int .i64 145, .string SA]
    exact k.of_block (((Below.refl _ (W9.alloc (.cells #[.int .i64 145, .string SA] 49))).alloc (Nat.le_refl _) _).block _ k.lt)
  have hkB : Blk ((W9.alloc (.cells #[.int .i64 145, .string SA] 49)).alloc (.cells #[.int .i64 145, .string SB] 49)) (W9.heap.size + 1) 49 #[.int .i64 145, .string SB] := by
    have := Blk.new (W9.alloc (.cells #[.int .i64 145, .string SA] 49)) 49 #[.int .i64 145, .string SB]
    simpa using this
  obtain ⟨W0, hW0⟩ : ∃ x, (W9.alloc (.cells #[.int .i64 145, .string SA] 49)).alloc (.cells #[.int .i64 145, .string SB] 49) = x := ⟨_, rfl⟩
  rw [hW0] at bb hkA hkB
  rw [hW0]
  clear hW0
  obtain ⟨G, hI0, G1, G2, G3⟩ := InG.fence (I9.out.inG (fun k => w.heap.size ≤ k) (fun k h _ => h)) (fun k h => Nat.le_trans B9.out.size h) bb
  have hltA := hkA.lt
  have hltB := hkB.lt
  obtain ⟨gA, hgA⟩ : ∃ g, W9.heap.size = g := ⟨_, rfl⟩
  obtain ⟨gB, hgB⟩ : ∃ g, W9.heap.size + 1 = g := ⟨_, rfl⟩
  have hnA : ¬ G gA := G3 gA (by omega) (by omega)
  have hnB : ¬ G gB := G3 gB (by omega) (by omega)
  rw [hgB] at hkB hltB
  rw [hgA] at hkA hltA
  rw [hgB, hgA]
  have hB0 : Below w.heap.size w W0 := below_step B9.out bb
  have HK : Hid (∀ W, But G W0 W → Below w.heap.size w W ∧ Blk W gA 49 #[.int .i64 145, .string SA] ∧ Blk W gB 49 #[.int .i64 145, .string SB]) := fun W hW => by
    refine ⟨hB0.trans ?_, hkA.of_block (hW.block _ hltA hnA), hkB.of_block (hW.block _ hltB hnB)⟩
    exact hW.below G2 hB0.size
  have HG1 := Lib.hid G1
  have HG2 := Lib.hid G2
  have HI0 := Lib.hid hI0
  clear bb hkA hkB G1 G2 G3 hI0 hltA hltB hgA hgB hnA hnB hB0 I9 B9
  refine wp_region_inv (by kernel_rfl) [58, 59, 60, 61, 62, 63, 64, 65, 66, 67, 68, 69, 70, 71] (by kernel_rfl) (R5I SA SB G W0 p) ⟨(But.refl G W0).drew, HI0.out.below (Below.refl _ _).drew, (by intro h; cases h), (by intro h; cases h), (by intro h; cases h), (by intro h; cases h), (by intro h; cases h), (by intro h; cases h), (by intro i h; cases h)⟩ ?_ ?_ ?_
  · intro i o L vs ρ W ho hli haft hρ hgd hI
    have hi9 : i < 14 := (Array.getElem?_eq_some_iff.1 ho).1
    have hc := hρ.const
    have hfn := hρ.fn
    obtain ⟨hB, hKA, hKB⟩ := HK.out W hI.but
    have hGW : ∀ k, W.heap.size ≤ k → G k := fun k h => HG1.out k (Nat.le_trans hI.but.size h)
    have hct : CTab W := HT.out.below hB hg
    rcases i with _ | _ | _ | _ | _ | _ | _ | _ | _ | _ | _ | _ | _ | _ | i
    all_goals (first | omega | skip)
    all_goals simp only [List.getElem?_toArray, List.getElem?_cons_zero, List.getElem?_cons_succ, Option.some.injEq] at ho
    all_goals subst ho
    · have o1 : ρ (.tmp 1) = .pointer (some ⟨p, 0, none⟩) := hρ.out 1 rfl
      exact stepTo_value (w' := W) (by unfold execOp; simp only [o1]; go_simp) (hI.next 0 _ (by decide) (fun h => absurd h (by decide)) (Below.refl _ _) rfl)
    · have o2 : ρ (.tmp 2) = .pointer (some ⟨gA, 0, none⟩) := hρ.out 2 rfl
      have q0 := hKA.cell 0
      have q1 := hKA.cell 1
      have q2 := hKA.lt
      exact stepTo_value (w' := W) (by unfold execOp; simp only [o2]; go_simp) (hI.next 1 _ (by decide) (fun h => absurd h (by decide)) (Below.refl _ _) rfl)
    · have g1 : R5V SA SB p 1 (vs 1) := hI.val 1 (haft 1 (by kernel_rfl))
      have s59 : ρ (.tmp 59) = .agg #[.int .i64 145, .string SA] := (hρ.at_ 59 1 rfl).trans g1
      exact stepTo_value (v := .slice (some ⟨W.heap.size, 0, none⟩) 1 1) (w' := W.alloc (.cells #[.int .i64 145, .string SA] 49)) (by unfold execOp; simp only [s59]; go_simp) (hI.next2 _ ((Below.refl _ _).alloc (Nat.le_refl _) _) (wsAt_oneS SA 145 la HSA.out (by unfold i64B; omega)))
    · have g0 : R5V SA SB p 0 (vs 0) := hI.val 0 (haft 0 (by kernel_rfl))
      have s58 : ρ (.tmp 58) = .pointer (some ⟨p, 0, none⟩) := (hρ.at_ 58 0 rfl).trans g0
      obtain ⟨b, g2, hw⟩ := hI.s2 (haft 2 (by kernel_rfl))
      have s60 : ρ (.tmp 60) = .slice (some ⟨b, 0, none⟩) 1 1 := (hρ.at_ 60 2 rfl).trans g2
      have h11 : L 11 = false := by
        cases hx : L 11 with
        | false => rfl
        | true => rw [hI.o10 (hI.o11 hx)] at hli; cases hli
      have hd := hI.dsk
      rw [h11, hli] at hd
      simp only [Bool.false_eq_true, if_false] at hd
      refine stepTo_enter (f := 8) (args := #[.pointer (some ⟨p, 0, none⟩), .slice (some ⟨b, 0, none⟩) 1 1]) (w' := W) (by unfold execOp; simp only [hfn, s58, s60]; go_simp) ((commit_g HHW.out HHR.out hd hGW (by rw [kd1_n]; decide) _ 1 1 [kA] rfl (hw hli) (by decide) hct kd1_more 0 kd2 kd2_com).mono ?_)
      rintro x W' ⟨rfl, hd', hb'⟩
      exact ⟨_, rfl, hI.next3 hli hb' hd'⟩
    · have g3 : R5V SA SB p 3 (vs 3) := hI.val 3 (haft 3 (by kernel_rfl))
      have s61 : ρ (.tmp 61) = .int .i64 0 := (hρ.at_ 61 3 rfl).trans g3
      exact stepTo_value (w' := W) (by unfold execOp; simp only [s61, hc]; go_simp) (hI.next 4 _ (by decide) (fun _ => haft 3 (by kernel_rfl)) (Below.refl _ _) rfl)
    · have g4 : R5V SA SB p 4 (vs 4) := hI.val 4 (haft 4 (by kernel_rfl))
      have s62 : ρ (.tmp 62) = .bool false := (hρ.at_ 62 4 rfl).trans g4
      exact stepTo_value (w' := W) (by unfold execOp; simp only [s62]; go_simp) (hI.next 5 _ (by decide) (fun _ => hI.o4 (haft 4 (by kernel_rfl))) (Below.refl _ _) rfl)
    · have o1 : ρ (.tmp 1) = .pointer (some ⟨p, 0, none⟩) := hρ.out 1 rfl
      exact stepTo_value (w' := W) (by unfold execOp; simp only [o1]; go_simp) (hI.next 6 _ (by decide) (fun h => absurd h (by decide)) (Below.refl _ _) rfl)
    · have o3 : ρ (.tmp 3) = .pointer (some ⟨gB, 0, none⟩) := hρ.out 3 rfl
      have q0 := hKB.cell 0
      have q1 := hKB.cell 1
      have q2 := hKB.lt
      exact stepTo_value (w' := W) (by unfold execOp; simp only [o3]; go_simp) (hI.next 7 _ (by decide) (fun h => absurd h (by decide)) (Below.refl _ _) rfl)
    · refine stepTo_enter (f := 23) (args := #[.int .u8 98]) (w' := W) (by unfold execOp; simp only [hfn, hc]; go_simp) ((HLB.out W).mono ?_)
      rintro x W' ⟨rfl, hb'⟩
      exact ⟨_, rfl, hI.next 8 _ (by decide) (fun h => absurd h (by decide)) hb' rfl⟩
    · have g8 : R5V SA SB p 8 (vs 8) := hI.val 8 (haft 8 (by kernel_rfl))
      have s66 : ρ (.tmp 66) = .string SB := (hρ.at_ 66 8 rfl).trans g8
      exact stepTo_value (w' := W) (by unfold execOp; simp only [s66, hc]; go_simp) (hI.next 9 _ (by decide) (fun h => absurd h (by decide)) (Below.refl _ _) rfl)
    · have g7 : R5V SA SB p 7 (vs 7) := hI.val 7 (haft 7 (by kernel_rfl))
      have s65 : ρ (.tmp 65) = .agg #[.int .i64 145, .string SB] := (hρ.at_ 65 7 rfl).trans g7
      have g9 : R5V SA SB p 9 (vs 9) := hI.val 9 (haft 9 (by kernel_rfl))
      have s67 : ρ (.tmp 67) = .agg #[.int .i64 146, .string SB] := (hρ.at_ 67 9 rfl).trans g9
      exact stepTo_value (v := .slice (some ⟨W.heap.size, 0, none⟩) 2 2) (w' := W.alloc (.cells #[.int .i64 145, .string SB, .int .i64 146, .string SB] 49)) (by unfold execOp; simp only [s65, s67]; go_simp) (hI.next10 (hI.o5 (haft 5 (by kernel_rfl))) _ ((Below.refl _ _).alloc (Nat.le_refl _) _) (wsAt_twoS SB SB 145 146 lb lb HSB.out HSB.out (by unfold i64B; omega) (by unfold i64B; omega)))
    · have g6 : R5V SA SB p 6 (vs 6) := hI.val 6 (haft 6 (by kernel_rfl))
      have s64 : ρ (.tmp 64) = .pointer (some ⟨p, 0, none⟩) := (hρ.at_ 64 6 rfl).trans g6
      have h10 : L 10 = true := haft 10 (by kernel_rfl)
      obtain ⟨b, g10, hw⟩ := hI.s10 h10
      have s68 : ρ (.tmp 68) = .slice (some ⟨b, 0, none⟩) 2 2 := (hρ.at_ 68 10 rfl).trans g10
      have hd := hI.dsk
      rw [hli, hI.o10 h10] at hd
      simp only [Bool.false_eq_true, if_false, if_true] at hd
      refine stepTo_enter (f := 8) (args := #[.pointer (some ⟨p, 0, none⟩), .slice (some ⟨b, 0, none⟩) 2 2]) (w' := W) (by unfold execOp; simp only [hfn, s64, s68]; go_simp) ((commit_g HHW.out HHR.out hd hGW (by rw [kd2_n]; decide) _ 2 2 [kB, kB6] rfl (hw hli) (by decide) hct kd2_more 0 kd3 kd3_com).mono ?_)
      rintro x W' ⟨rfl, hd', hb'⟩
      exact ⟨_, rfl, hI.next11 h10 hb' hd'⟩
    · have g11 : R5V SA SB p 11 (vs 11) := hI.val 11 (haft 11 (by kernel_rfl))
      have s69 : ρ (.tmp 69) = .int .i64 0 := (hρ.at_ 69 11 rfl).trans g11
      exact stepTo_value (w' := W) (by unfold execOp; simp only [s69, hc]; go_simp) (hI.next 12 _ (by decide) (fun h => absurd h (by decide)) (Below.refl _ _) rfl)
    · have g5 : R5V SA SB p 5 (vs 5) := hI.val 5 (haft 5 (by kernel_rfl))
      have s63 : ρ (.tmp 63) = .bool false := (hρ.at_ 63 5 rfl).trans g5
      have g12 : R5V SA SB p 12 (vs 12) := hI.val 12 (haft 12 (by kernel_rfl))
      have s70 : ρ (.tmp 70) = .bool false := (hρ.at_ 70 12 rfl).trans g12
      exact stepTo_value (w' := W) (by unfold execOp; simp only [s63, s70, hc]; go_simp) (hI.next 13 _ (by decide) (fun h => absurd h (by decide)) (Below.refl _ _) rfl)
  · intro i o L vs W j want ho hli haft hgu hv hI
    have hi9 : i < 14 := (Array.getElem?_eq_some_iff.1 ho).1
    rcases i with _ | _ | _ | _ | _ | _ | _ | _ | _ | _ | _ | _ | _ | _ | i
    all_goals (first | omega | skip)
    all_goals simp only [List.getElem?_toArray, List.getElem?_cons_zero, List.getElem?_cons_succ, Option.some.injEq] at ho
    all_goals subst ho
    all_goals simp only [reduceCtorEq, Option.some.injEq, Prod.mk.injEq] at hgu
    all_goals (obtain ⟨rfl, rfl⟩ := hgu; exact absurd (hI.val 5 (haft 5 (by kernel_rfl))) hv)
  intro vs W10 hI
  have hv13 : vs 13 = .bool false := hI.val 13 (by decide)
  have I10 := Lib.hid (hI.fin (by decide))
  have BG10 := Lib.hid hI.but
  clear hI HI0
  simp only [putList, putSel, if_true]
  rw [hv13]
  clear hv13
  generalize vs 0 = x0 at *
  generalize vs 1 = x1 at *
  generalize vs 2 = x2 at *
  generalize vs 3 = x3 at *
  generalize vs 4 = x4 at *
  generalize vs 5 = x5 at *
  generalize vs 6 = x6 at *
  generalize vs 7 = x7 at *
  generalize vs 8 = x8 at *
  generalize vs 9 = x9 at *
  generalize vs 10 = x10 at *
  generalize vs 11 = x11 at *
  generalize vs 12 = x12 at *
  clear vs
  simp only [Act.put, List.setIfInBounds_toArray, List.set_cons_succ, List.set_cons_zero]
  --MARK1
  have hct : ∀ W, But G W0 W → CTab W := fun W h => HT.out.below (HK.out W h).1 hg
  have HCT := Lib.hid hct
  obtain ⟨SH, hsh⟩ : ∃ s, str (hdB 0 3) = s := ⟨_, rfl⟩
  obtain ⟨S7, hs7⟩ : ∃ s, str k73 = s := ⟨_, rfl⟩
  have hshz : SH.size = 32 := by rw [← hsh, str_size, (hd_facts (by decide) (by decide)).1]
  have hs7z : S7.size = 32 := by rw [← hs7, str_size, kd3_73.2.1]
  have hq1 : (SB.toList == SB.toList) = true := by simp
  have HSH := Lib.hid hsh
  have HS7 := Lib.hid hs7
  have hqh := head5 hsh
  have hq7 := first3 hs7
  have hl5 : (5 : Int) ≤ (SH.size : Int) := by omega
  have hl3 : (3 : Int) ≤ (S7.size : Int) := by omega
  clear hct hsh hs7
  go_wp2_with fail
  refine (read_g I10.out 145 lb SB HSB.out 0 kd3_145).mono ?_
  rintro e W11 ⟨rfl, i, b⟩
  have I11 := Lib.hid i
  have BG11 := Lib.hid (BG10.out.trans (S' := G) (But.of_below b) (fun _ e => .inl e))
  clear i b I10 BG10
  go_wp2_with fail
  refine (read_g I11.out 0 (hdB 0 3) SH HSH.out 0 kd3_0).mono ?_
  rintro e W12 ⟨rfl, i, b⟩
  have I12 := Lib.hid i
  have BG12 := Lib.hid (BG11.out.trans (S' := G) (But.of_below b) (fun _ e => .inl e))
  clear i b I11 BG11
  go_wp2_with fail
  refine (read_g I12.out 73 k73 S7 HS7.out 0 (Prod.ext rfl kd3_73.1)).mono ?_
  rintro e W13 ⟨rfl, i, b⟩
  have I13 := Lib.hid i
  have BG13 := Lib.hid (BG12.out.trans (S' := G) (But.of_below b) (fun _ e => .inl e))
  clear i b I12 BG12
  go_wp2_with fail
  refine (HLB.out W13).mono ?_
  rintro e W14 ⟨rfl, b⟩
  have I14 := Lib.hid (I13.out.below b)
  have BG14 := Lib.hid (BG13.out.trans (S' := G) (But.of_below b) (fun _ e => .inl e))
  clear b I13 BG13
  go_wp2_with fail
  --MARK2
  refine wp_region_inv (by kernel_rfl) [100, 101, 102, 103, 104, 105, 106, 107, 108, 109, 110, 111, 112, 113, 114, 115, 116, 117, 118, 119] (by kernel_rfl) (fun L vs W => Below W14.heap.size W14 W ∧ ∀ i, L i = true → i < 20 → R12 W14.heap.size SA SB i (vs i) W) ⟨(Below.refl _ _).drew, fun i hi => by cases hi⟩ ?_ ?_ ?_
  · intro i o L vs ρ W ho hli haft hρ hgd hI
    obtain ⟨hb, hG⟩ := hI
    have hi9 : i < 20 := (Array.getElem?_eq_some_iff.1 ho).1
    have hc := hρ.const
    have hfn := hρ.fn
    obtain ⟨_, hKA, hKB⟩ := HK.out W (BG14.out.trans (S' := G) (But.of_below hb) (fun _ e => .inl e))
    have next : ∀ v W', Below W.heap.size W W' → R12 W14.heap.size SA SB i v W' → Below W14.heap.size W14 W' ∧ ∀ j, updB L i j = true → j < 20 → R12 W14.heap.size SA SB j (updV vs i v j) W' := fun v W' h1 h2 => by
      refine ⟨below_step hb h1, fun j hj h9 => ?_⟩
      by_cases hji : j = i
      · subst hji
        simpa [updV] using h2
      · simp only [updB, if_neg hji] at hj
        simpa [updV, hji] using R12_mono j _ W W' h9 (hG j hj h9) h1
    rcases i with _ | _ | _ | _ | _ | _ | _ | _ | _ | _ | _ | _ | _ | _ | _ | _ | _ | _ | _ | _ | i
    all_goals (first | omega | skip)
    all_goals simp only [List.getElem?_toArray, List.getElem?_cons_zero, List.getElem?_cons_succ, Option.some.injEq] at ho
    all_goals subst ho
    · refine stepTo_enter (f := 23) (args := #[.int .u8 97]) (w' := W) (by unfold execOp; simp only [hfn, hc]; go_simp) ((HLA.out W).mono ?_)
      rintro x W' ⟨rfl, hb'⟩
      exact ⟨_, rfl, next _ _ hb' rfl⟩
    · have g0 : R12 W14.heap.size SA SB 0 (vs 0) W := hG 0 (haft 0 (by kernel_rfl)) (by decide)
      have s100 : ρ (.tmp 100) = .string SA := (hρ.at_ 100 0 rfl).trans g0
      exact stepTo_value (w' := W) (by unfold execOp; simp only [s100, hc]; go_simp) (next _ _ (Below.refl _ _) rfl)
    · have g1 : R12 W14.heap.size SA SB 1 (vs 1) W := hG 1 (haft 1 (by kernel_rfl)) (by decide)
      have s101 : ρ (.tmp 101) = .agg #[.int .i64 (144), .string SA] := (hρ.at_ 101 1 rfl).trans g1
      exact stepTo_value (v := .slice (some ⟨W.heap.size, 0, none⟩) 1 1) (w' := W.alloc (.cells #[.int .i64 (144), .string SA] 49)) (by unfold execOp; simp only [s101]; go_simp) (next _ _ ((Below.refl _ _).alloc (Nat.le_refl _) _) ⟨_, rfl, wsAt_oneS SA (144) la HSA.out (by unfold i64B; omega), hb.size, by simp⟩)
    · refine stepTo_enter (f := 23) (args := #[.int .u8 97]) (w' := W) (by unfold execOp; simp only [hfn, hc]; go_simp) ((HLA.out W).mono ?_)
      rintro x W' ⟨rfl, hb'⟩
      exact ⟨_, rfl, next _ _ hb' rfl⟩
    · have g3 : R12 W14.heap.size SA SB 3 (vs 3) W := hG 3 (haft 3 (by kernel_rfl)) (by decide)
      have s103 : ρ (.tmp 103) = .string SA := (hρ.at_ 103 3 rfl).trans g3
      exact stepTo_value (w' := W) (by unfold execOp; simp only [s103, hc]; go_simp) (next _ _ (Below.refl _ _) rfl)
    · have g4 : R12 W14.heap.size SA SB 4 (vs 4) W := hG 4 (haft 4 (by kernel_rfl)) (by decide)
      have s104 : ρ (.tmp 104) = .agg #[.int .i64 (150), .string SA] := (hρ.at_ 104 4 rfl).trans g4
      exact stepTo_value (v := .slice (some ⟨W.heap.size, 0, none⟩) 1 1) (w' := W.alloc (.cells #[.int .i64 (150), .string SA] 49)) (by unfold execOp; simp only [s104]; go_simp) (next _ _ ((Below.refl _ _).alloc (Nat.le_refl _) _) ⟨_, rfl, wsAt_oneS SA (150) la HSA.out (by unfold i64B; omega), hb.size, by simp⟩)
    · have o2 : ρ (.tmp 2) = .pointer (some ⟨gA, 0, none⟩) := hρ.out 2 rfl
      have q0 := hKA.cell 0
      have q1 := hKA.cell 1
      have q2 := hKA.lt
      exact stepTo_value (w' := W) (by unfold execOp; simp only [o2]; go_simp) (next _ _ (Below.refl _ _) rfl)
    · have o3 : ρ (.tmp 3) = .pointer (some ⟨gB, 0, none⟩) := hρ.out 3 rfl
      have q0 := hKB.cell 0
      have q1 := hKB.cell 1
      have q2 := hKB.lt
      exact stepTo_value (w' := W) (by unfold execOp; simp only [o3]; go_simp) (next _ _ (Below.refl _ _) rfl)
    · have g6 : R12 W14.heap.size SA SB 6 (vs 6) W := hG 6 (haft 6 (by kernel_rfl)) (by decide)
      have s106 : ρ (.tmp 106) = .agg #[.int .i64 145, .string SA] := (hρ.at_ 106 6 rfl).trans g6
      have g7 : R12 W14.heap.size SA SB 7 (vs 7) W := hG 7 (haft 7 (by kernel_rfl)) (by decide)
      have s107 : ρ (.tmp 107) = .agg #[.int .i64 145, .string SB] := (hρ.at_ 107 7 rfl).trans g7
      exact stepTo_value (v := .slice (some ⟨W.heap.size, 0, none⟩) 2 2) (w' := W.alloc (.cells #[.int .i64 145, .string SA, .int .i64 145, .string SB] 49)) (by unfold execOp; simp only [s106, s107]; go_simp) (next _ _ ((Below.refl _ _).alloc (Nat.le_refl _) _) ⟨_, rfl, wsAt_twoS SA SB 145 145 la lb HSA.out HSB.out (by unfold i64B; omega) (by unfold i64B; omega), hb.size, by simp⟩)
    · exact stepTo_value (v := .agg #[.int .i64 145, .string (str [97])]) (w' := W) (by unfold execOp; simp only [hc]; go_simp; rfl) (next _ _ (Below.refl _ _) rfl)
    · have g9 : R12 W14.heap.size SA SB 9 (vs 9) W := hG 9 (haft 9 (by kernel_rfl)) (by decide)
      have s109 : ρ (.tmp 109) = .agg #[.int .i64 (145), .string (str [97])] := (hρ.at_ 109 9 rfl).trans g9
      exact stepTo_value (v := .slice (some ⟨W.heap.size, 0, none⟩) 1 1) (w' := W.alloc (.cells #[.int .i64 (145), .string (str [97])] 49)) (by unfold execOp; simp only [s109]; go_simp) (next _ _ ((Below.refl _ _).alloc (Nat.le_refl _) _) ⟨_, rfl, wsAt_oneS (str [97]) (145) [97] rfl (by unfold i64B; omega), hb.size, by simp⟩)
    · refine stepTo_enter (f := 23) (args := #[.int .u8 97]) (w' := W) (by unfold execOp; simp only [hfn, hc]; go_simp) ((HLA.out W).mono ?_)
      rintro x W' ⟨rfl, hb'⟩
      exact ⟨_, rfl, next _ _ hb' rfl⟩
    · have g11 : R12 W14.heap.size SA SB 11 (vs 11) W := hG 11 (haft 11 (by kernel_rfl)) (by decide)
      have s111 : ρ (.tmp 111) = .string SA := (hρ.at_ 111 11 rfl).trans g11
      exact stepTo_value (w' := W) (by unfold execOp; simp only [s111, hc]; go_simp) (next _ _ (Below.refl _ _) rfl)
    · have g12 : R12 W14.heap.size SA SB 12 (vs 12) W := hG 12 (haft 12 (by kernel_rfl)) (by decide)
      have s112 : ρ (.tmp 112) = .agg #[.int .i64 (0), .string SA] := (hρ.at_ 112 12 rfl).trans g12
      exact stepTo_value (v := .slice (some ⟨W.heap.size, 0, none⟩) 1 1) (w' := W.alloc (.cells #[.int .i64 (0), .string SA] 49)) (by unfold execOp; simp only [s112]; go_simp) (next _ _ ((Below.refl _ _).alloc (Nat.le_refl _) _) ⟨_, rfl, wsAt_oneS SA (0) la HSA.out (by unfold i64B; omega), hb.size, by simp⟩)
    · refine stepTo_enter (f := 23) (args := #[.int .u8 97]) (w' := W) (by unfold execOp; simp only [hfn, hc]; go_simp) ((HLA.out W).mono ?_)
      rintro x W' ⟨rfl, hb'⟩
      exact ⟨_, rfl, next _ _ hb' rfl⟩
    · have g14 : R12 W14.heap.size SA SB 14 (vs 14) W := hG 14 (haft 14 (by kernel_rfl)) (by decide)
      have s114 : ρ (.tmp 114) = .string SA := (hρ.at_ 114 14 rfl).trans g14
      exact stepTo_value (w' := W) (by unfold execOp; simp only [s114, hc]; go_simp) (next _ _ (Below.refl _ _) rfl)
    · have g15 : R12 W14.heap.size SA SB 15 (vs 15) W := hG 15 (haft 15 (by kernel_rfl)) (by decide)
      have s115 : ρ (.tmp 115) = .agg #[.int .i64 (-1), .string SA] := (hρ.at_ 115 15 rfl).trans g15
      exact stepTo_value (v := .slice (some ⟨W.heap.size, 0, none⟩) 1 1) (w' := W.alloc (.cells #[.int .i64 (-1), .string SA] 49)) (by unfold execOp; simp only [s115]; go_simp) (next _ _ ((Below.refl _ _).alloc (Nat.le_refl _) _) ⟨_, rfl, wsAt_oneS SA (-1) la HSA.out (by unfold i64B; omega), hb.size, by simp⟩)
    · obtain ⟨b2, g2, hw2⟩ : R12 W14.heap.size SA SB 2 (vs 2) W := hG 2 (haft 2 (by kernel_rfl)) (by decide)
      have s102 : ρ (.tmp 102) = .slice (some ⟨b2, 0, none⟩) 1 1 := (hρ.at_ 102 2 rfl).trans g2
      obtain ⟨b5, g5, hw5⟩ : R12 W14.heap.size SA SB 5 (vs 5) W := hG 5 (haft 5 (by kernel_rfl)) (by decide)
      have s105 : ρ (.tmp 105) = .slice (some ⟨b5, 0, none⟩) 1 1 := (hρ.at_ 105 5 rfl).trans g5
      obtain ⟨b8, g8, hw8⟩ : R12 W14.heap.size SA SB 8 (vs 8) W := hG 8 (haft 8 (by kernel_rfl)) (by decide)
      have s108 : ρ (.tmp 108) = .slice (some ⟨b8, 0, none⟩) 2 2 := (hρ.at_ 108 8 rfl).trans g8
      obtain ⟨b10, g10, hw10⟩ : R12 W14.heap.size SA SB 10 (vs 10) W := hG 10 (haft 10 (by kernel_rfl)) (by decide)
      have s110 : ρ (.tmp 110) = .slice (some ⟨b10, 0, none⟩) 1 1 := (hρ.at_ 110 10 rfl).trans g10
      obtain ⟨b13, g13, hw13⟩ : R12 W14.heap.size SA SB 13 (vs 13) W := hG 13 (haft 13 (by kernel_rfl)) (by decide)
      have s113 : ρ (.tmp 113) = .slice (some ⟨b13, 0, none⟩) 1 1 := (hρ.at_ 113 13 rfl).trans g13
      obtain ⟨b16, g16, hw16⟩ : R12 W14.heap.size SA SB 16 (vs 16) W := hG 16 (haft 16 (by kernel_rfl)) (by decide)
      have s116 : ρ (.tmp 116) = .slice (some ⟨b16, 0, none⟩) 1 1 := (hρ.at_ 116 16 rfl).trans g16
      exact stepTo_value (v := .slice (some ⟨W.heap.size, 0, none⟩) 6 6) (w' := W.alloc (.cells #[.slice (some ⟨b2, 0, none⟩) 1 1, .slice (some ⟨b5, 0, none⟩) 1 1, .slice (some ⟨b8, 0, none⟩) 2 2, .slice (some ⟨b10, 0, none⟩) 1 1, .slice (some ⟨b13, 0, none⟩) 1 1, .slice (some ⟨b16, 0, none⟩) 1 1] 32)) (by unfold execOp; simp only [s102, s105, s108, s110, s113, s116]; go_simp) (next _ _ ((Below.refl _ _).alloc (Nat.le_refl _) _) ⟨_, rfl, bs_six hb.size hw2 hw5 hw8 hw10 hw13 hw16⟩)
    · obtain ⟨b, g17, _⟩ : R12 W14.heap.size SA SB 17 (vs 17) W := hG 17 (haft 17 (by kernel_rfl)) (by decide)
      have s117 : ρ (.tmp 117) = .slice (some ⟨b, 0, none⟩) 6 6 := (hρ.at_ 117 17 rfl).trans g17
      exact stepTo_value (v := .int .i64 6) (w' := W) (by unfold execOp; simp only [s117]; go_simp) (next _ _ (Below.refl _ _) rfl)
    · exact stepTo_value (v := .int .i64 0) (w' := W) (by unfold execOp; simp only [hc]; go_simp) (next _ _ (Below.refl _ _) rfl)
  · intro i o L vs W j want ho hli haft hgu hv hI
    have hi9 : i < 20 := (Array.getElem?_eq_some_iff.1 ho).1
    rcases i with _ | _ | _ | _ | _ | _ | _ | _ | _ | _ | _ | _ | _ | _ | _ | _ | _ | _ | _ | _ | i
    all_goals (first | omega | skip)
    all_goals simp only [List.getElem?_toArray, List.getElem?_cons_zero, List.getElem?_cons_succ, Option.some.injEq] at ho
    all_goals subst ho
    all_goals simp only [reduceCtorEq] at hgu
  intro vs W15 hI
  obtain ⟨b15, hG⟩ := hI
  obtain ⟨bL, hv17, hbs⟩ : R12 W14.heap.size SA SB 17 (vs 17) W15 := hG 17 (by decide) (by decide)
  have hv18 : vs 18 = .int .i64 6 := hG 18 (by decide) (by decide)
  have hv19 : vs 19 = .int .i64 0 := hG 19 (by decide) (by decide)
  have HBS := Lib.hid hbs
  have HB15 := Lib.hid b15
  simp only [putList, putSel, if_true]
  rw [hv17, hv18, hv19]
  clear hG hv17 hv18 hv19 hbs b15
  generalize vs 0 = y0 at *
  generalize vs 1 = y1 at *
  generalize vs 2 = y2 at *
  generalize vs 3 = y3 at *
  generalize vs 4 = y4 at *
  generalize vs 5 = y5 at *
  generalize vs 6 = y6 at *
  generalize vs 7 = y7 at *
  generalize vs 8 = y8 at *
  generalize vs 9 = y9 at *
  generalize vs 10 = y10 at *
  generalize vs 11 = y11 at *
  generalize vs 12 = y12 at *
  generalize vs 13 = y13 at *
  generalize vs 14 = y14 at *
  generalize vs 15 = y15 at *
  generalize vs 16 = y16 at *
  clear vs
  simp only [Act.put, List.setIfInBounds_toArray, List.set_cons_succ, List.set_cons_zero]
  --MARK3
  obtain ⟨G2, hI2, u1, u2, u3⟩ := InG.fence I14.out (fun k h => HG1.out k (Nat.le_trans BG14.out.size h)) HB15.out
  have BG15 := Lib.hid (BG14.out.trans (S' := G) (But.of_below HB15.out) (fun _ e => .inl e))
  have I15 := Lib.hid hI2
  have U1 := Lib.hid u1
  have U2 := Lib.hid u2
  have U3 := Lib.hid u3
  clear hI2 u1 u2 u3 I14 BG14
  go_wp2_with fail
  go_loopw [119] (fun i wr => ∃ k : Nat, k ≤ 6 ∧ i = .int .i64 (k : Int) ∧ InG 400 wr G2 p kd3 ∧ But G2 W15 wr) (fun i _ => 6 - (intOf i).toNat)
  case atStart => exact ⟨0, by omega, rfl, I15.out, But.refl _ _⟩
  case round =>
    obtain ⟨k, hk, rfl, hi, hb⟩ := hrel
    have HI := Lib.hid hi
    have HB := Lib.hid hb
    have BG := Lib.hid (BG15.out.trans hb (fun i h => .inl (U2.out i h)))
    clear hi hb
    by_cases hlt : k < 6
    · have hklt : (k : Int) < 6 := by omega
      have hbs := HBS.out.but HB.out U3.out
      obtain ⟨_, hlb, hcells⟩ := hbs
      obtain ⟨A, q0, hws, _⟩ := hcells k hlt
      have hmem : badL[k]'hlt ∈ badL := List.getElem_mem hlt
      have hlen : (badL[k]'hlt).length ≤ 1000000 := by
        have : badL.all (fun l => decide (l.length ≤ 1000000)) = true := by decide +kernel
        exact of_decide_eq_true (List.all_eq_true.1 this _ hmem)
      generalize badL[k]'hlt = l at *
      have HWS := Lib.hid hws
      have HCM := Lib.hid (bad_com hmem)
      clear hws hmem hcells
      go_wp2_with fail
      refine (commit_g HHW.out HHR.out HI.out (fun k h => U1.out k (Nat.le_trans HB.out.size h)) (by rw [kd3_n]; decide) A _ _ l rfl HWS.out hlen (HT.out.below (HK.out _ BG.out).1 hg) (by rw [kd3_more]; decide) 2 kd3 HCM.out).mono ?_
      rintro e W' ⟨rfl, hi', hb'⟩
      have HI' := Lib.hid hi'
      have HB' := Lib.hid (HB.out.trans hb' (fun _ e => .inl e))
      clear hi' hb' HI HB
      go_wp2_with fail
      go_roundw
      case rel => exact ⟨k + 1, by omega, by go_num, HI'.out, HB'.out⟩
      case measure => simp [intOf]; omega
    · have hk6 : ¬ (k : Int) < 6 := by omega
      clear hk hlt
      go_wp2_with fail
      --MARK4
      obtain ⟨W16, h16⟩ : ∃ x, x = wr := ⟨_, rfl⟩
      subst h16
      obtain ⟨i0, hwi, hz0, hz1, hz2⟩ := info_parts infoWr
      obtain ⟨S9, hs9⟩ : ∃ s, str (rep 99 32) = s := ⟨_, rfl⟩
      have HS9 := Lib.hid hs9
      have hlc : ∀ W, Calls Tryd.prog 23 #[.int .u8 99] W fun e w' => e = .returned (.string S9) ∧ Below W.heap.size W w' := fun W => by
        have := letters_any 99 W
        unfold okT at this
        rw [hs9] at this
        exact this
      have HLC := Lib.hid hlc
      have W6K := Lib.hid (HK.out W16 BG.out)
      clear hs9 hlc HB BG HK HG1 HG2 HCT HBS I15 BG15 U2 U3 HSH HS7 hq1 hqh hq7 hl5 hl3 hshz hs7z
      have I16 := HI
      clear HI
      go_loopw [12, 13] (fun v i wr => ManyRel W16 v i wr) (fun _ i _ => 61 - (intOf i).toNat)
      case atStart => exact ⟨0, by omega, rfl, World.ownsRow_nil _ _ _ _, Below.refl _ _⟩
      case round =>
        obtain ⟨k, hk, rfl, ho, hb⟩ := hrel
        have HO := Lib.hid ho
        have HB := Lib.hid hb
        clear ho hb
        by_cases hlt : k < 61
        · have hklt : (k : Int) < 61 := by omega
          have hadd : (145 : Int) + (k : Int) = ((145 + k : Nat) : Int) := by omega
          have HAD := Lib.hid hadd
          clear hadd
          go_wp2_with fail
          refine (HLC.out _).mono ?_
          rintro e W1 ⟨rfl, b1⟩
          have ho1 : W1.ownsRow W16.heap.size 49 2 _ _ _ := own_of_block HO.out (fun j hj => b1.block j (own_lt HO.out j hj))
          have HB1 := Lib.hid (HB.out.trans (b1.mono HB.out.size))
          have hown2 := ho1.alloc (.cells #[.int .i64 ((145 : Int) + (k : Int)), .string S9] 49)
          have hnews := news_two W1 49 (.int .i64 ((145 : Int) + (k : Int))) (.string S9)
          have HO2 := Lib.hid hown2
          have HNW := Lib.hid hnews
          have HB2 := Lib.hid (HB1.out.alloc HB1.out.size (.cells #[.int .i64 ((145 : Int) + (k : Int)), .string S9] 49))
          have htw : ∀ u ∈ ([Value.int .i64 ((145 : Int) + (k : Int)), .string S9] : List Value), u.oneCell' = true := by
            have := two_one (((145 : Int) + (k : Int)), rep 99 32)
            rw [HS9.out] at this
            exact this
          have HTW := Lib.hid htw
          have HLN : Hid ((manyL k).length = k) := manyL_len k
          clear b1 ho1 hown2 hnews htw
          have hkb : k ≤ 100000 := by omega
          go_wp2_with (at_builtin; refine wpList_append_own _ rfl (.tmp 132) (.tmp 137) 32 rfl W16.heap.size 49 i0 (.agg #[.int .i64 0, .string ByteArray.empty]) 2 24 Tryd.underlying32 hwi hz0 hz1 hz2 rfl (by decide) _ (manyL k).length _ rfl HO2.out ⟨W1.heap.size, 0, none⟩ 1 1 [.int .i64 ((145 : Int) + (k : Int)), .string S9] rfl rfl HNW.out HTW.out ?_ ?_ HB2.out.size ?_)
          · rw [HLN.out]; unfold maxLen; omega
          · rw [HLN.out]; omega
          · intro v' w1 hown1 hgrow _
            have hb1 := HB2.out.grown hgrow HB2.out.size (fun j hj => (HO2.out.lt j hj).1)
            have hos : OWs w1 W16.heap.size v' (manyL (k + 1)) := by
              rw [manyL_succ]
              refine OWs.snoc ?_
              rw [HLN.out]
              show w1.ownsRow _ _ _ _ _ (wrVals (manyL k) ++ [.int .i64 ((145 + k : Nat) : Int), .string (str (rep 99 32))])
              rw [HS9.out, ← HAD.out]
              rw [HLN.out] at hown1
              exact hown1
            have HOS := Lib.hid hos
            have HB3 := Lib.hid hb1
            clear hb1 hos hown1 hgrow
            go_wp2_with fail
            go_roundw
            case rel =>
              exact ⟨k + 1, by omega, by go_num, HOS.out, HB3.out⟩
            case measure => simp [intOf]; omega
        · have hk61 : ¬ (k : Int) < 61 := by omega
          have HO61 : Hid (OWs wr W16.heap.size u12 (manyL 61)) := by
            have e : 61 = k := by omega
            unfold Hid
            rw [e]
            exact HO.out
          clear hk hlt
          go_wp2_with fail
          --MARK5
          obtain ⟨W17, h17⟩ : ∃ x, x = wr := ⟨_, rfl⟩
          subst h17
          have hmi : ∀ x ∈ manyL 61, i64B x.1 := by
            have : (manyL 61).all (fun x => decide (-9223372036854775808 ≤ x.1) && decide (x.1 ≤ 9223372036854775807)) = true := by decide +kernel
            intro x hx
            have := List.all_eq_true.1 this x hx
            simp only [Bool.and_eq_true, decide_eq_true_eq] at this
            exact this
          obtain ⟨AM, cM, hvM, hwm, hc1, hc2⟩ := HO61.out.viewc hmi
          rw [manyL_len] at hc1
          have hcM : (60 : Int) ≤ (cM : Int) ∧ (cM : Int) ≤ 9223372036854775807 := by omega
          clear hc1 hc2
          rw [manyL_len] at hvM
          subst hvM
          have HWM := Lib.hid hwm
          have I17 := Lib.hid (I16.out.below HB.out)
          have W7K := Lib.hid (below_step W6K.out.1 HB.out)
          have hA17 := W6K.out.2.1.of_block (HB.out.block _ W6K.out.2.1.lt)
          have hB17 := W6K.out.2.2.of_block (HB.out.block _ W6K.out.2.2.lt)
          have HA17 := Lib.hid hA17
          clear hwm hmi hA17 hB17 HO HO61 I16
          go_wp2_with fail
          refine (new_in 400 400 400 (by decide) (by decide) (by decide) (by decide) W17).mono ?_
          rintro e W18 ⟨pb, rfl, i, b⟩
          have J18 := Lib.hid i
          have B18 := Lib.hid b
          clear i b
          go_wp2_with fail
          refine (commit_none (In.off_g (I17.out.below B18.out)) kd3_on).mono ?_
          rintro e _ ⟨rfl, rfl⟩
          go_wp2_with fail
          refine (format_in HHW.out J18.out B18.out.size (by decide) 0 kb1 kb1_com).mono ?_
          rintro e W19 ⟨rfl, i, b⟩
          have J19 := Lib.hid i
          have B19 := Lib.hid (B18.out.trans b)
          clear i b J18 B18
          go_wp2_with fail
          refine (commit_in HHW.out HHR.out J19.out B19.out.size (by rw [kb1_n]; decide) AM cM 61 (manyL 61) (manyL_len 61) (HWM.out.below B19.out (Nat.le_refl _)) (by rw [manyL_len]; decide) (HT.out.below (below_step W7K.out B19.out) hg) (by rw [kb1_j.more]; decide) 3 kb1 kb1_61).mono ?_
          rintro e W20 ⟨rfl, i, b⟩
          have J20 := Lib.hid i
          have B20 := Lib.hid (B19.out.trans b)
          clear i b J19 B19
          go_wp2_with fail
          have hw60 : WsAt W20 AM (manyL 60) := fun j hj => by
            rw [manyL_len] at hj
            have := (HWM.out.below B20.out (Nat.le_refl _)) j (by rw [manyL_len]; omega)
            simpa [manyL] using this
          refine (commit_in HHW.out HHR.out J20.out B20.out.size (by rw [kb1_n]; decide) AM cM 60 (manyL 60) (manyL_len 60) hw60 (by rw [manyL_len]; decide) (HT.out.below (below_step W7K.out B20.out) hg) (by rw [kb1_j.more]; decide) 0 (jcommit kb1 (manyL 60)).2 (pair_of kb1_60)).mono ?_
          rintro e W21 ⟨rfl, _, b⟩
          have B21 := Lib.hid (B20.out.trans b)
          clear b J20 B20 hw60
          have I21 := Lib.hid (I17.out.below B21.out)
          have W21K := Lib.hid (below_step W7K.out B21.out)
          have HA21 := Lib.hid (HA17.out.of_block (B21.out.block _ HA17.out.lt))
          clear I17 W7K HA17 B21 HWM W6K HLC HS9
          go_wp2_with fail
          --MARK6
          have hgA21 := HA21.out.lt
          go_loopw [15] (fun i wr => FuseRel W21 i wr) (fun i _ => 10 - (intOf i).toNat)
          case atStart => exact ⟨1, by omega, by omega, rfl, Below.refl _ _⟩
          case round =>
            obtain ⟨k, hk1, hk10, rfl, hb⟩ := hrel
            have HB := Lib.hid hb
            clear hb
            by_cases hlt : k ≤ 9
            · have hklt : (k : Int) ≤ 9 := by omega
              go_wp2_with fail
              obtain ⟨wo, hwo⟩ : ∃ x, x = wr := ⟨_, rfl⟩
              subst hwo
              --M61
              go_loopw [16] (fun i wr => AllRel2 wo i wr) (fun i _ => 2 - (intOf i).toNat)
              case atStart => exact ⟨0, by omega, rfl, Below.refl _ _⟩
              case round =>
                obtain ⟨m, hm2, rfl, hb⟩ := hrel
                have HBI := Lib.hid hb
                have BW := Lib.hid (below_step HB.out hb)
                clear hb
                by_cases hml : m < 2
                · have hmlt : (m : Int) < 2 := by omega
                  --M62
                  obtain ⟨all, hall⟩ : ∃ b : Bool, ((m : Int) == 1) = b := ⟨_, rfl⟩
                  obtain ⟨ee, c, c2, c3, c4, hcut⟩ := cut_at k all hk1 hlt
                  have HCUT := Lib.hid hcut
                  obtain ⟨x, hx6⟩ : ∃ b, (ee == 6) = b := ⟨_, rfl⟩
                  have hon : c.on = !x := by have := hcut.six; rw [hx6] at this; rw [this]; simp
                  have HON := Lib.hid hon
                  have hlate : ((7 : Int) < (k : Int) ∧ (ee != 0) = false) ∨ ¬ (7 : Int) < (k : Int) := by
                    by_cases h : 7 < k
                    · exact .inl ⟨by omega, by rw [hcut.late h]; rfl⟩
                    · exact .inr (by omega)
                  have HLATE := Lib.hid hlate
                  have HTH := Lib.hid (there_cases k all)
                  have IW := Lib.hid (I21.out.below BW.out)
                  clear hcut hon hlate
                  obtain ⟨wi, hwi⟩ : ∃ x, x = wr := ⟨_, rfl⟩
                  subst hwi
                  go_wp2_with fail
                  --M63
                  refine (copy_g IW.out (by decide)).mono ?_
                  rintro e V1 ⟨q, rfl, i, b⟩
                  have J1 := Lib.hid i
                  have D1 := Lib.hid b
                  clear i b
                  go_wp2_with fail
                  --M64
                  refine (arm_in J1.out D1.out.size (k : Int) (by omega) (kd3.arm (k : Int)) rfl).mono ?_
                  rintro e V2 ⟨rfl, i, b⟩
                  have J2 := Lib.hid i
                  have D2 := Lib.hid (D1.out.trans b)
                  clear i b J1 D1
                  --M65
                  have hA2 : Blk V2 gA 49 #[.int .i64 145, .string SA] := HA21.out.of_block ((below_step BW.out D2.out).block _ HA21.out.lt)
                  have q0 := hA2.cell 0
                  have q1 := hA2.cell 1
                  have lt2 := hA2.lt
                  clear hA2
                  go_wp2_with fail
                  have b := (Below.refl V2.heap.size V2).alloc (Nat.le_refl _) (.cells #[.int .i64 145, .string SA] 49)
                  have J3 := Lib.hid (J2.out.below b)
                  have D3 := Lib.hid (below_step D2.out b)
                  clear b J2 D2
                  --M66
                  refine (commit_in HHW.out HHR.out J3.out D3.out.size (by rw [arm_n, kd3_n]; decide) _ 1 1 [kA] rfl (wsAt_oneS SA 145 la HSA.out (by unfold i64B; omega)) (by decide) (HT.out.below (below_step W21K.out (below_step BW.out D3.out)) hg) (by rw [arm_more, kd3_more]; decide) ee c HCUT.out.com).mono ?_
                  rintro e V4 ⟨rfl, i, b⟩
                  have J4 := Lib.hid i
                  have D4 := Lib.hid (D3.out.trans b)
                  clear i b J3 D3 q0 q1 lt2
                  go_wp2_with fail
                  --M67
                  refine (on_in J4.out (!x) HON.out).mono ?_
                  rintro e _ ⟨rfl, rfl⟩
                  --MARK7
                  have hmk := make_bl
                  rcases HLATE.out with ⟨h7, he0⟩ | h7
                  · go_wp2_with fail
                    clear hmk
                    go_loopw [20] (fun i wr => KeepRel V4 all i wr) (fun i _ => 9 - (intOf i).toNat)
                    case atStart => exact ⟨0, by omega, rfl, by rw [← keepC_zero all]; exact Blk.new V4 _ _, (Below.refl _ _).alloc (Nat.le_refl _) _⟩
                    case round =>
                      obtain ⟨j, hj, rfl, hbk, hb⟩ := hrel
                      have HBK := Lib.hid hbk
                      have HBJ := Lib.hid hb
                      clear hb
                      by_cases hjl : j < 9
                      · have hjlt : (j : Int) < 9 := by omega
                        have hc0 := hbk.cell j
                        obtain ⟨old, hold⟩ : ∃ u, (keepC all j)[j]? = some u := ⟨_, Array.getElem?_eq_getElem (by rw [keepC_size all j hj]; exact hjl)⟩
                        rw [hold] at hc0
                        have hf := hbk.frozen j
                        have hlk := hbk.lt
                        clear hbk hold
                        go_wp2_with fail
                        go_roundw
                        case rel => exact ⟨j + 1, by omega, by go_num, by rw [← keepC_set all j hjl]; exact HBK.out.set_ j _, HBJ.out.setCell (Nat.le_refl _) _⟩
                        case measure => simp [intOf]; omega
                      · have hj9 : ¬ (j : Int) < 9 := by omega
                        have HBA : Hid (BoolsAt wr (some ⟨V4.heap.size, 0, none⟩) (List.replicate 9 all)) := by
                          intro y hy
                          have e : j = 9 := by omega
                          subst e
                          have hk9 := HBK.out
                          rw [keepC_all] at hk9
                          refine ⟨V4.heap.size, 0, rfl, hk9.lt, ?_⟩
                          rw [Nat.zero_add, hk9.cell y, List.getElem?_toArray, List.getElem?_map, List.getElem?_eq_getElem hy]
                          rfl
                        clear hbk hj hjl
                        have hgk := HBK.out.lt
                        go_wp2_with fail
                        obtain ⟨V5, h5⟩ : ∃ x, x = wr := ⟨_, rfl⟩
                        subst h5
                        obtain ⟨G5, hG5⟩ : ∃ G5 : Nat → Prop, G5 = fun k => wi.heap.size ≤ k ∧ k ≠ V4.heap.size := ⟨_, rfl⟩
                        have i5 : InG 400 V4 G5 q c := J4.out.inG G5 (fun k h h2 => by rw [hG5]; exact ⟨h, by omega⟩)
                        have I5 := Lib.hid (i5.below HBJ.out)
                        have D5 := Lib.hid (D4.out.trans (HBJ.out.mono D4.out.size))
                        have G5up : Hid (∀ W : World, V5.heap.size ≤ W.heap.size → ∀ k, W.heap.size ≤ k → G5 k) := fun W h k hk => by
                          rw [hG5]
                          have := D5.out.size
                          exact ⟨by omega, by omega⟩
                        have G5low : Hid (∀ k, G5 k → wi.heap.size ≤ k) := fun k h => by rw [hG5] at h; exact h.1
                        have G5not : Hid (¬ G5 V4.heap.size) := fun h => by rw [hG5] at h; exact h.2 rfl
                        clear i5 hG5
                        refine (off_g I5.out (G5up.out V5 (Nat.le_refl _)) c.off rfl).mono ?_
                        rintro e V6 ⟨rfl, i, b⟩
                        have I6 := Lib.hid i
                        have D6 := Lib.hid (D5.out.trans (b.below G5low.out D5.out.size))
                        have S6 := Lib.hid b.size
                        have HBA6 : Hid (BoolsAt V6 (some ⟨V4.heap.size, 0, none⟩) (List.replicate 9 all)) := fun y hy => by
                          obtain ⟨b', o', e1, e2, e3⟩ := HBA.out y hy
                          simp only [Option.some.injEq, Addr.mk.injEq, and_true] at e1
                          obtain ⟨rfl, rfl⟩ := e1
                          exact ⟨_, _, rfl, Nat.lt_of_lt_of_le e2 b.size, by rw [World.cell?, b.block _ e2 G5not.out]; exact e3⟩
                        clear i b HBA hgk
                        go_wp2_with fail
                        refine (wake_g I6.out (G5up.out V6 S6.out) (by decide) _ 9 9 (List.replicate 9 all) (by simp) HBA6.out (fun b o h _ => by
                          simp only [Option.some.injEq, Addr.mk.injEq, and_true] at h
                          rw [← h.1]
                          exact G5not.out) c2 HCUT.out.wake).mono ?_
                        rintro e V7 ⟨rfl, i, b⟩
                        have I7 := Lib.hid i
                        have D7 := Lib.hid (D6.out.trans (b.below G5low.out D6.out.size))
                        have S7' := Lib.hid (Nat.le_trans S6.out b.size)
                        clear i b I6 D6 HBA6
                        go_wp2_with fail
                        refine (recover_g HHR.out I7.out (G5up.out V7 S7'.out) (by rw [HCUT.out.n2]; decide) (HT.out.below (below_step W21K.out (below_step BW.out D7.out)) hg) HCUT.out.m2 0 c3 HCUT.out.rec1).mono ?_
                        rintro e V8 ⟨rfl, i, b⟩
                        have I8' := Lib.hid i
                        have D8' := Lib.hid (D7.out.trans (b.below G5low.out D7.out.size))
                        have S8' := Lib.hid (Nat.le_trans S7'.out b.size)
                        clear i b I7 D7
                        go_wp2_with fail
                        refine (recover_g HHR.out I8'.out (G5up.out V8 S8'.out) (by rw [HCUT.out.n3]; decide) (HT.out.below (below_step W21K.out (below_step BW.out D8'.out)) hg) HCUT.out.m3 0 c4 HCUT.out.rec2).mono ?_
                        rintro e V8b ⟨rfl, i, b⟩
                        have IE := Lib.hid i
                        have D8 := Lib.hid (D8'.out.trans (b.below G5low.out D8'.out.size))
                        clear i b I8' D8'
                        have hqa : (SA.toList == SA.toList) = true := by simp
                        have hqb : (SB.toList == SB.toList) = true := by simp
                        go_wp2_with fail
                        rcases HTH.out with ⟨t1, hth⟩ | ⟨t1, t2, t3, hth⟩ | ⟨t1, t2, t3, hth⟩ | ⟨t1, t2, hth⟩
                        · refine (read_g IE.out 145 la SA HSA.out 0 (by have := HCUT.out.read; rw [hth] at this; exact this)).mono ?_
                          rintro e V9 ⟨rfl, _, b⟩
                          have D9 := Lib.hid (below_step D8.out b)
                          clear b
                          go_wp2_with fail
                          refine (HLA.out V9).mono ?_
                          rintro e V10 ⟨rfl, b⟩
                          have D10 := Lib.hid (below_step D9.out b)
                          clear b D9
                          go_wp2_with fail
                          go_roundw
                          case rel => exact ⟨m + 1, by omega, by go_num, below_step HBI.out D10.out⟩
                          case measure => simp [intOf]; omega
                        · exact absurd h7 (by omega)
                        · exact absurd h7 (by omega)
                        · exact absurd h7 (by omega)
                  · go_wp2_with fail
                    clear hmk
                    go_loopw [20] (fun i wr => KeepRel V4 all i wr) (fun i _ => 9 - (intOf i).toNat)
                    case atStart => exact ⟨0, by omega, rfl, by rw [← keepC_zero all]; exact Blk.new V4 _ _, (Below.refl _ _).alloc (Nat.le_refl _) _⟩
                    case round =>
                      obtain ⟨j, hj, rfl, hbk, hb⟩ := hrel
                      have HBK := Lib.hid hbk
                      have HBJ := Lib.hid hb
                      clear hb
                      by_cases hjl : j < 9
                      · have hjlt : (j : Int) < 9 := by omega
                        have hc0 := hbk.cell j
                        obtain ⟨old, hold⟩ : ∃ u, (keepC all j)[j]? = some u := ⟨_, Array.getElem?_eq_getElem (by rw [keepC_size all j hj]; exact hjl)⟩
                        rw [hold] at hc0
                        have hf := hbk.frozen j
                        have hlk := hbk.lt
                        clear hbk hold
                        go_wp2_with fail
                        go_roundw
                        case rel => exact ⟨j + 1, by omega, by go_num, by rw [← keepC_set all j hjl]; exact HBK.out.set_ j _, HBJ.out.setCell (Nat.le_refl _) _⟩
                        case measure => simp [intOf]; omega
                      · have hj9 : ¬ (j : Int) < 9 := by omega
                        have HBA : Hid (BoolsAt wr (some ⟨V4.heap.size, 0, none⟩) (List.replicate 9 all)) := by
                          intro y hy
                          have e : j = 9 := by omega
                          subst e
                          have hk9 := HBK.out
                          rw [keepC_all] at hk9
                          refine ⟨V4.heap.size, 0, rfl, hk9.lt, ?_⟩
                          rw [Nat.zero_add, hk9.cell y, List.getElem?_toArray, List.getElem?_map, List.getElem?_eq_getElem hy]
                          rfl
                        clear hbk hj hjl
                        have hgk := HBK.out.lt
                        go_wp2_with fail
                        obtain ⟨V5, h5⟩ : ∃ x, x = wr := ⟨_, rfl⟩
                        subst h5
                        obtain ⟨G5, hG5⟩ : ∃ G5 : Nat → Prop, G5 = fun k => wi.heap.size ≤ k ∧ k ≠ V4.heap.size := ⟨_, rfl⟩
                        have i5 : InG 400 V4 G5 q c := J4.out.inG G5 (fun k h h2 => by rw [hG5]; exact ⟨h, by omega⟩)
                        have I5 := Lib.hid (i5.below HBJ.out)
                        have D5 := Lib.hid (D4.out.trans (HBJ.out.mono D4.out.size))
                        have G5up : Hid (∀ W : World, V5.heap.size ≤ W.heap.size → ∀ k, W.heap.size ≤ k → G5 k) := fun W h k hk => by
                          rw [hG5]
                          have := D5.out.size
                          exact ⟨by omega, by omega⟩
                        have G5low : Hid (∀ k, G5 k → wi.heap.size ≤ k) := fun k h => by rw [hG5] at h; exact h.1
                        have G5not : Hid (¬ G5 V4.heap.size) := fun h => by rw [hG5] at h; exact h.2 rfl
                        clear i5 hG5
                        refine (off_g I5.out (G5up.out V5 (Nat.le_refl _)) c.off rfl).mono ?_
                        rintro e V6 ⟨rfl, i, b⟩
                        have I6 := Lib.hid i
                        have D6 := Lib.hid (D5.out.trans (b.below G5low.out D5.out.size))
                        have S6 := Lib.hid b.size
                        have HBA6 : Hid (BoolsAt V6 (some ⟨V4.heap.size, 0, none⟩) (List.replicate 9 all)) := fun y hy => by
                          obtain ⟨b', o', e1, e2, e3⟩ := HBA.out y hy
                          simp only [Option.some.injEq, Addr.mk.injEq, and_true] at e1
                          obtain ⟨rfl, rfl⟩ := e1
                          exact ⟨_, _, rfl, Nat.lt_of_lt_of_le e2 b.size, by rw [World.cell?, b.block _ e2 G5not.out]; exact e3⟩
                        clear i b HBA hgk
                        go_wp2_with fail
                        refine (wake_g I6.out (G5up.out V6 S6.out) (by decide) _ 9 9 (List.replicate 9 all) (by simp) HBA6.out (fun b o h _ => by
                          simp only [Option.some.injEq, Addr.mk.injEq, and_true] at h
                          rw [← h.1]
                          exact G5not.out) c2 HCUT.out.wake).mono ?_
                        rintro e V7 ⟨rfl, i, b⟩
                        have I7 := Lib.hid i
                        have D7 := Lib.hid (D6.out.trans (b.below G5low.out D6.out.size))
                        have S7' := Lib.hid (Nat.le_trans S6.out b.size)
                        clear i b I6 D6 HBA6
                        go_wp2_with fail
                        refine (recover_g HHR.out I7.out (G5up.out V7 S7'.out) (by rw [HCUT.out.n2]; decide) (HT.out.below (below_step W21K.out (below_step BW.out D7.out)) hg) HCUT.out.m2 0 c3 HCUT.out.rec1).mono ?_
                        rintro e V8 ⟨rfl, i, b⟩
                        have I8' := Lib.hid i
                        have D8' := Lib.hid (D7.out.trans (b.below G5low.out D7.out.size))
                        have S8' := Lib.hid (Nat.le_trans S7'.out b.size)
                        clear i b I7 D7
                        go_wp2_with fail
                        refine (recover_g HHR.out I8'.out (G5up.out V8 S8'.out) (by rw [HCUT.out.n3]; decide) (HT.out.below (below_step W21K.out (below_step BW.out D8'.out)) hg) HCUT.out.m3 0 c4 HCUT.out.rec2).mono ?_
                        rintro e V8b ⟨rfl, i, b⟩
                        have IE := Lib.hid i
                        have D8 := Lib.hid (D8'.out.trans (b.below G5low.out D8'.out.size))
                        clear i b I8' D8'
                        have hqa : (SA.toList == SA.toList) = true := by simp
                        have hqb : (SB.toList == SB.toList) = true := by simp
                        go_wp2_with fail
                        rcases HTH.out with ⟨t1, hth⟩ | ⟨t1, t2, t3, hth⟩ | ⟨t1, t2, t3, hth⟩ | ⟨t1, t2, hth⟩
                        · refine (read_g IE.out 145 la SA HSA.out 0 (by have := HCUT.out.read; rw [hth] at this; exact this)).mono ?_
                          rintro e V9 ⟨rfl, _, b⟩
                          have D9 := Lib.hid (below_step D8.out b)
                          clear b
                          go_wp2_with fail
                          refine (HLA.out V9).mono ?_
                          rintro e V10 ⟨rfl, b⟩
                          have D10 := Lib.hid (below_step D9.out b)
                          clear b D9
                          go_wp2_with fail
                          go_roundw
                          case rel => exact ⟨m + 1, by omega, by go_num, below_step HBI.out D10.out⟩
                          case measure => simp [intOf]; omega
                        · have h31 : ((m : Int) == 1) = true := by rw [hall, t3]
                          refine (read_g IE.out 145 la SA HSA.out 0 (by have := HCUT.out.read; rw [hth] at this; exact this)).mono ?_
                          rintro e V9 ⟨rfl, _, b⟩
                          have D9 := Lib.hid (below_step D8.out b)
                          clear b
                          go_wp2_with fail
                          refine (HLA.out V9).mono ?_
                          rintro e V10 ⟨rfl, b⟩
                          have D10 := Lib.hid (below_step D9.out b)
                          clear b D9
                          go_wp2_with fail
                          go_roundw
                          case rel => exact ⟨m + 1, by omega, by go_num, below_step HBI.out D10.out⟩
                          case measure => simp [intOf]; omega
                        · have h31 : ((m : Int) == 1) = false := by rw [hall, t3]
                          refine (read_g IE.out 145 lb SB HSB.out 0 (by have := HCUT.out.read; rw [hth] at this; exact this)).mono ?_
                          rintro e V9 ⟨rfl, _, b⟩
                          have D9 := Lib.hid (below_step D8.out b)
                          clear b
                          go_wp2_with fail
                          refine (HLB.out V9).mono ?_
                          rintro e V10 ⟨rfl, b⟩
                          have D10 := Lib.hid (below_step D9.out b)
                          clear b D9
                          go_wp2_with fail
                          go_roundw
                          case rel => exact ⟨m + 1, by omega, by go_num, below_step HBI.out D10.out⟩
                          case measure => simp [intOf]; omega
                        · refine (read_g IE.out 145 lb SB HSB.out 0 (by have := HCUT.out.read; rw [hth] at this; exact this)).mono ?_
                          rintro e V9 ⟨rfl, _, b⟩
                          have D9 := Lib.hid (below_step D8.out b)
                          clear b
                          go_wp2_with fail
                          refine (HLB.out V9).mono ?_
                          rintro e V10 ⟨rfl, b⟩
                          have D10 := Lib.hid (below_step D9.out b)
                          clear b D9
                          go_wp2_with fail
                          go_roundw
                          case rel => exact ⟨m + 1, by omega, by go_num, below_step HBI.out D10.out⟩
                          case measure => simp [intOf]; omega
                · have hm' : ¬ (m : Int) < 2 := by omega
                  go_wp2_with fail
                  go_roundw
                  case rel => exact ⟨k + 1, by omega, by omega, by go_num, BW.out⟩
                  case measure => simp [intOf]; omega
            · have hk9 : ¬ (k : Int) ≤ 9 := by omega
              clear hk10 hlt
              obtain ⟨Z0, h0⟩ : ∃ x, x = wr := ⟨_, rfl⟩
              subst h0
              have BZ0 := Lib.hid (below_step W21K.out HB.out)
              have HA0 := Lib.hid (HA21.out.of_block (HB.out.block _ HA21.out.lt))
              clear I21 W21K HA21 HB hgA21
              go_wp2_with fail
              refine (new_in 400 200 3 (by decide) (by decide) (by decide) (by decide) Z0).mono ?_
              rintro e Z1 ⟨ps, rfl, i, b⟩
              have P1 := Lib.hid i
              have E1 := Lib.hid b
              clear i b
              go_wp2_with fail
              refine (format_in HHW.out P1.out E1.out.size (by decide) 0 ks1 ks1_com).mono ?_
              rintro e Z2 ⟨rfl, i, b⟩
              have P2 := Lib.hid i
              have E2 := Lib.hid (E1.out.trans b)
              clear i b P1 E1
              have hA2 := HA0.out.of_block (E2.out.block _ HA0.out.lt)
              have q0 := hA2.cell 0
              have q1 := hA2.cell 1
              have lt2 := hA2.lt
              clear hA2
              go_wp2_with fail
              have b := (Below.refl Z2.heap.size Z2).alloc (Nat.le_refl _) (.cells #[.int .i64 145, .string SA] 49)
              have P3 := Lib.hid (P2.out.below b)
              have E3 := Lib.hid (below_step E2.out b)
              clear b P2 E2
              refine (commit_in HHW.out HHR.out P3.out E3.out.size (by rw [ks_n1]; decide) _ 1 1 [kA] rfl (wsAt_oneS SA 145 la HSA.out (by unfold i64B; omega)) (by decide) (HT.out.below (below_step BZ0.out E3.out) hg) ks_m1 7 ks2 ks2_com).mono ?_
              rintro e Z3 ⟨rfl, i, b⟩
              have P3' := Lib.hid i
              have E3' := Lib.hid (E3.out.trans b)
              clear i b P3 E3 q0 q1 lt2
              go_wp2_with fail
              refine (room_in P3'.out E3'.out.size 4 (by decide) ks3 ks3_room).mono ?_
              rintro e Z4 ⟨rfl, i, b⟩
              have P4 := Lib.hid (In.box i)
              have E4 := Lib.hid (E3'.out.trans b)
              clear i b P3' E3'
              go_wp2_with fail
              refine (new_in 400 200 0 (by decide) (by decide) (by decide) (by decide) Z4).mono ?_
              rintro e Z5 ⟨pn, rfl, i, b⟩
              have N5 := Lib.hid (In.box i)
              have F5 := Lib.hid b
              clear i b
              go_wp2_with fail
              refine (new_in 400 145 145 (by decide) (by decide) (by decide) (by decide) Z5).mono ?_
              rintro e Z6 ⟨ph, rfl, i, b⟩
              have H6 := Lib.hid (In.box i)
              have F6 := Lib.hid b
              clear i b
              go_wp2_with fail
              refine (new_in 400 200 200 (by decide) (by decide) (by decide) (by decide) Z6).mono ?_
              rintro e Z7 ⟨po, rfl, i, b⟩
              have O7 := Lib.hid i
              have F7 := Lib.hid b
              clear i b
              go_wp2_with fail
              refine (off_in O7.out F7.out.size (DD.new 200 200).off rfl).mono ?_
              rintro e Z8 ⟨rfl, i, b⟩
              have O8 := Lib.hid (In.box i)
              have F8 := Lib.hid (F7.out.trans b)
              clear i b O7 F7
              have E8 := Lib.hid (below_step (below_step (below_step E4.out F5.out) F6.out) F8.out)
              have hA2 := HA0.out.of_block (E8.out.block _ HA0.out.lt)
              have q0 := hA2.cell 0
              have q1 := hA2.cell 1
              have lt2 := hA2.lt
              clear hA2
              go_wp2_with fail
              obtain ⟨Z9, hZ9⟩ : ∃ x, Z8.alloc (.cells #[.int .i64 145, .string SA] 49) = x := ⟨_, rfl⟩
              have hw9 : WsAt Z9 (some ⟨Z8.heap.size, 0, none⟩) [kA] := by rw [← hZ9]; exact wsAt_oneS SA 145 la HSA.out (by unfold i64B; omega)
              have b9 : Below Z8.heap.size Z8 Z9 := by rw [← hZ9]; exact (Below.refl Z8.heap.size Z8).alloc (Nat.le_refl _) _
              rw [hZ9]
              have z4 := E4.out.size
              have z5 := F5.out.size
              have z6 := F6.out.size
              have z8 := F8.out.size
              have z9 := b9.size
              have F9 := below_step F8.out b9
              have S9 : InG 400 Z9 (fun k => (Z0.heap.size ≤ k ∧ k < Z4.heap.size) ∨ Z9.heap.size ≤ k) ps ks3 := InG.wide (P4.out.below (below_step (below_step F5.out F6.out) F9)) (fun k h => .inl h)
              have E9 := below_step E8.out b9
              have N9 := N5.out.below (below_step F6.out F9)
              have H9 := H6.out.below F9
              have O9 := O8.out.below b9
              have HW9 := Lib.hid hw9
              have HN9 := Lib.hid N9
              have HH9 := Lib.hid H9
              have HO9 := Lib.hid O9
              have HE9 := Lib.hid E9
              have HS9' := Lib.hid S9
              clear hZ9 q0 q1 lt2 hw9 b9 F9 S9 E9 N9 H9 O9 P4 N5 H6 O8 E8 F5 F6 F8 E4
              refine (commit_g HHW.out HHR.out HS9'.out (fun k h => .inr h) (by rw [ks_n3]; decide) _ 1 1 [kA] rfl HW9.out (by decide) (HT.out.below (below_step BZ0.out HE9.out) hg) ks_m3 0 (jcommit ks3 [kA]).2 ks3_com).mono ?_
              rintro e Z10 ⟨rfl, _, b⟩
              have z10 := b.size
              have HN10 : Hid (InG 400 Z10 (fun k => (Z4.heap.size ≤ k ∧ k < Z5.heap.size) ∨ Z10.heap.size ≤ k) pn (DD.new 200 0)) := InG.wide (HN9.out.but b (fun k h h' => by omega)) (fun k h => .inl h)
              have HH10 : Hid (InG 400 Z10 (fun k => Z5.heap.size ≤ k ∧ k < Z6.heap.size) ph (DD.new 145 145)) := HH9.out.but b (fun k h h' => by omega)
              have HO10 : Hid (InG 400 Z10 (fun k => Z6.heap.size ≤ k ∧ k < Z8.heap.size) po (DD.new 200 200).off) := HO9.out.but b (fun k h h' => by omega)
              have HE10 := Lib.hid (HE9.out.trans (b.below (fun k h => by omega) HE9.out.size))
              clear b HN9 HH9 HO9 HE9 HS9' HW9
              go_wp2_with fail
              refine (format_g HHW.out HN10.out (fun k h => .inr h) (by decide) 7 (jformat (DD.new 200 0)).2 kn_com).mono ?_
              rintro e Z11 ⟨rfl, _, b⟩
              have HH11 := Lib.hid (In.off_g (HH10.out.but b (fun k h h' => by omega)))
              have HO11 := Lib.hid (In.off_g (HO10.out.but b (fun k h h' => by omega)))
              have HE11 := Lib.hid (HE10.out.trans (b.below (fun k h => by omega) HE10.out.size))
              clear b HN10 HH10 HO10 HE10
              go_wp2_with fail
              refine (format_short HH11.out rfl (by decide)).mono ?_
              rintro e _ ⟨rfl, rfl⟩
              go_wp2_with fail
              refine (format_off HO11.out rfl).mono ?_
              rintro e _ ⟨rfl, rfl⟩
              go_wp2_with fail
              refine (commit_off HO11.out rfl).mono ?_
              rintro e _ ⟨rfl, rfl⟩
              go_wp2_with fail
              refine (recover_off HO11.out rfl).mono ?_
              rintro e _ ⟨rfl, rfl⟩
              go_wp2_with fail
              refine (format_nil _).mono ?_
              rintro e _ ⟨rfl, rfl⟩
              go_wp2_with fail
              refine (commit_nil _).mono ?_
              rintro e _ ⟨rfl, rfl⟩
              go_wp2_with fail
              refine (recover_nil _).mono ?_
              rintro e _ ⟨rfl, rfl⟩
              go_wp2_with fail
              have BZ11 := Lib.hid (below_step BZ0.out HE11.out)
              refine (works_any HHW.out HHR.out _ (HT.out.below BZ11.out hg)).mono ?_
              rintro e Z12 ⟨rfl, b⟩
              have BZ12 := Lib.hid (below_step BZ11.out b)
              clear b
              go_wp2_with fail
              go_ret
              exact ⟨rfl, BZ12.out⟩
end Go.Proofs.YtjllpbckmioiiaaDoor.jr

