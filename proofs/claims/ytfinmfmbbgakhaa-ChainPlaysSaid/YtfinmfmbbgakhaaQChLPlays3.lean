/- ChDoS, ChDoR, ChDoH. -/
import Derived.Test.YtfinmfmbbgakhaaQChLPlays1
/- What do of the statements does: snap. -/
namespace Go.Proofs.Ytfinmfmbbgakhaa.ch
open Go Go.RowKit Go.Proofs.Ytfinmfmbbgakhaa.ib
set_option maxRecDepth 100000

def DsG (p q g0 : Nat) (y1 y2 er : Int) : Nat → Value → World → Prop
  | 0, v, _ => v = .pointer (some ⟨p, 0, none⟩)
  | 1, v, _ => v = .pointer (some ⟨g0, 3, none⟩)
  | 2, v, _ => v = .agg #[.int .u64 y1, .int .u64 y2]
  | 3, v, _ => v = .int .i64 er
  | 4, v, _ => v = .pointer (some ⟨q, 0, none⟩)
  | 5, v, _ => v = .pointer (some ⟨g0, 3, none⟩)
  | 6, v, _ => v = .agg #[.int .u64 y1, .int .u64 y2]
  | 7, v, _ => v = .int .i64 er
  | 8, v, _ => v = .bool true
  | 9, v, _ => v = .bool true
  | _, _, _ => True

set_option maxRecDepth 100000 in
set_option maxHeartbeats 6400000 in
theorem do_snap {Is : IsT} (H : Impl Is) {m p q : Nat} {X : Nat → Prop} {w : World} {d : CH} (h : Tw Is w m p q d d X) (hm : m ≤ w.heap.size) (what : Int) (hw : what = 3 ∨ what = 4) (n : Int) (c : UInt8) (g : Gd) (A : Option Addr) (cap : Nat) (zs : List (Int × UInt8)) (hg : gdB g) :
    Calls Try.prog 16 #[.pointer (some ⟨p, 0, none⟩), .pointer (some ⟨q, 0, none⟩), .agg (ActC.mk what n c g A cap zs).cs] w (DoP Is m p q X w (d.snap g).1 (d.snap g).1) := by
  have HB0 := Lib.hid ((Below.refl w.heap.size w).alloc (Nat.le_refl _) (.cells (ActC.mk what n c g A cap zs).cs 40))
  have HT0 := Lib.hid (act_box H h (ActC.mk what n c g A cap zs).cs 40)
  have HA0 := Lib.hid (Blk.new w 40 (ActC.mk what n c g A cap zs).cs)
  obtain ⟨w0, hw0⟩ : ∃ x, w.alloc (.cells (ActC.mk what n c g A cap zs).cs 40) = x := ⟨_, rfl⟩
  rw [hw0] at HB0 HT0 HA0
  have HM : Hid (m ≤ w0.heap.size) := Nat.le_trans hm HB0.out.size
  clear h
  unfold ActC.cs at hw0 HA0 ⊢
  dsimp only at hw0 HA0 ⊢
  obtain ⟨D', er, hD⟩ : ∃ D' er, d.snap g = (D', er) := ⟨_, _, rfl⟩
  have HD : Hid (d.snap g = (D', er)) := hD
  rw [show (d.snap g).1 = D' from by rw [hD]]
  clear hD
  obtain ⟨y1, hy1⟩ : ∃ y, (g.1 : Int) = y := ⟨_, rfl⟩
  obtain ⟨y2, hy2⟩ : ∃ y, (g.2 : Int) = y := ⟨_, rfl⟩
  have HGV : Hid (gv g = .agg #[.int .u64 y1, .int .u64 y2]) := by unfold Hid gv; rw [hy1, hy2]
  rw [hy1, hy2] at hw0 HA0 ⊢
  clear hy1 hy2
  have HS0 : Hid (DoS Is m p q (fun j => X j ∨ j = w.heap.size) w0 d d D' D' false false w0.drew) := HT0.out.below H (drewC (Below.refl _ _) 1)
  have hlt := HA0.out.lt
  have c0 := HA0.out.cell 0
  simp only [List.getElem?_toArray, List.getElem?_cons_zero, List.getElem?_cons_succ] at c0
  rcases hw with rfl | rfl
  all_goals
    go_enter Try.func16, Try.ntmps16
    go_wp2_with fail
    try rw [hw0]
    clear hw0 c0
    refine wp_region_inv (by kernel_rfl) [35, 36, 37, 38, 39, 40, 41, 42, 43, 6] (by kernel_rfl) (fun L vs W => DoS Is m p q (fun j => X j ∨ j = w.heap.size) w0 d d D' D' (L 3) (L 7) W ∧ ((L 7 = true → L 3 = true) ∧ (L 7 = true → L 3 = true)) ∧ ∀ i, L i = true → i < 10 → DsG p q w.heap.size y1 y2 er i (vs i) W) ⟨HS0.out, ⟨fun h => (by cases h), fun h => (by cases h)⟩, fun i hi => by cases hi⟩ ?_ ?_ ?_
    · intro i o L vs ρ W ho hli haft hρ hgd hI
      obtain ⟨hS, hC, hG'⟩ := hI
      have hG : ∀ j, L j = true → DsG p q w.heap.size y1 y2 er j (vs j) W := fun j hj => by
        by_cases h16 : j < 10
        · exact hG' j hj h16
        · match j, h16 with
          | j + 10, _ => exact trivial
      have hi16 : i < 10 := (Array.getElem?_eq_some_iff.1 ho).1
      have hc := hρ.const
      have hfn := hρ.fn
      have nextG : ∀ v W', DsG p q w.heap.size y1 y2 er i v W' → ∀ j, updB L i j = true → j < 10 → DsG p q w.heap.size y1 y2 er j (updV vs i v j) W' := fun v W' h2 j hj h16 => by
        by_cases hji : j = i
        · subst hji
          simpa [updV] using h2
        · simp only [updB, if_neg hji] at hj
          have := hG' j hj h16
          simp only [updV, if_neg hji]
          match j, h16, this with
          | 0, _, h => exact h
          | 1, _, h => exact h
          | 2, _, h => exact h
          | 3, _, h => exact h
          | 4, _, h => exact h
          | 5, _, h => exact h
          | 6, _, h => exact h
          | 7, _, h => exact h
          | 8, _, h => exact h
          | 9, _, h => exact h
          | j + 10, h, _ => exact absurd h (by omega)
      have next : i ≠ 3 → i ≠ 7 → (i = 7 → L 3 = true) → ∀ v W', DoS Is m p q (fun j => X j ∨ j = w.heap.size) w0 d d D' D' (L 3) (L 7) W' → DsG p q w.heap.size y1 y2 er i v W' → DoS Is m p q (fun j => X j ∨ j = w.heap.size) w0 d d D' D' (updB L i 3) (updB L i 7) W' ∧ ((updB L i 7 = true → updB L i 3 = true) ∧ (updB L i 7 = true → updB L i 3 = true)) ∧ ∀ j, updB L i j = true → j < 10 → DsG p q w.heap.size y1 y2 er j (updV vs i v j) W' := fun n1 n2 n3 v W' h1 h2 => by
        refine ⟨?_, ⟨?_, ?_⟩, nextG v W' h2⟩
        · simp only [updB, if_neg (Ne.symm n1), if_neg (Ne.symm n2)]
          exact h1
        · simp only [updB, if_neg (Ne.symm n1), if_neg (Ne.symm n2)]
          exact hC.1
        · intro hm
          simp only [updB, if_neg (Ne.symm n1)]
          by_cases him : 7 = i
          · exact n3 him.symm
          · simp only [updB, if_neg him] at hm
            exact hC.2 hm
      have hA1 := HA0.out.of_block (hS.2.block hlt (.inl (.inr rfl)))
      have hltW := hA1.lt
      have l1 := hA1.cell 1
      have l2 := hA1.cell 2
      have l3 := hA1.cell 3
      have l4 := hA1.cell 4
      simp only [List.getElem?_toArray, List.getElem?_cons_zero, List.getElem?_cons_succ] at l1 l2 l3 l4
      rcases i with _ | _ | _ | _ | _ | _ | _ | _ | _ | _ | i
      all_goals (first | omega | skip)
      all_goals simp only [List.getElem?_toArray, List.getElem?_cons_zero, List.getElem?_cons_succ, Option.some.injEq] at ho
      all_goals subst ho
      · have o0 : ρ (.tmp 0) = .pointer (some ⟨p, 0, none⟩) := hρ.out 0 rfl
        exact stepTo_value (w' := W) (by unfold execOp; simp only [o0, hc]; go_simp) (next (by decide) (by decide) (fun h => absurd h (by decide)) _ _ hS rfl)
      · have o5 : ρ (.tmp 5) = .pointer (some ⟨w.heap.size, 0, none⟩) := hρ.out 5 rfl
        exact stepTo_value (w' := W) (by unfold execOp; simp only [o5, hc]; go_simp) (next (by decide) (by decide) (fun h => absurd h (by decide)) _ _ hS rfl)
      · have g36 : DsG p q w.heap.size y1 y2 er 1 (vs 1) W := hG 1 (haft 1 (by kernel_rfl))
        have s36 : ρ (.tmp 36) = .pointer (some ⟨w.heap.size, 3, none⟩) := (hρ.at_ 36 1 rfl).trans g36
        exact stepTo_value (w' := W) (by unfold execOp; simp only [s36, hc]; go_simp) (next (by decide) (by decide) (fun h => absurd h (by decide)) _ _ hS rfl)
      · have g35 : DsG p q w.heap.size y1 y2 er 0 (vs 0) W := hG 0 (haft 0 (by kernel_rfl))
        have s35 : ρ (.tmp 35) = .pointer (some ⟨p, 0, none⟩) := (hρ.at_ 35 0 rfl).trans g35
        have g37 : DsG p q w.heap.size y1 y2 er 2 (vs 2) W := hG 2 (haft 2 (by kernel_rfl))
        have s37 : ρ (.tmp 37) = .agg #[.int .u64 y1, .int .u64 y2] := (hρ.at_ 37 2 rfl).trans g37
        have n2 : L 7 = false := by
          cases hx : L 7 with
          | false => rfl
          | true => exact absurd (hC.1 hx) (by rw [hli]; decide)
        rw [hli, n2] at hS
        refine stepTo_enter (f := 19) (args := #[.pointer (some ⟨p, 0, none⟩), .agg #[.int .u64 y1, .int .u64 y2]]) (w' := W) (by unfold execOp; simp only [hfn, s35, s37]; go_simp) ((doS_l hS HM.out (fun own hd _ => by have := H.snap g hd hg; rw [HD.out, HGV.out] at this; exact this)).mono ?_)
        rintro x W' ⟨rfl, h1⟩
        refine ⟨_, rfl, ?_, ⟨fun _ => by simp [updB], fun _ => by simp [updB]⟩, nextG _ _ rfl⟩
        simp only [updB, n2]
        exact h1
      · have o1 : ρ (.tmp 1) = .pointer (some ⟨q, 0, none⟩) := hρ.out 1 rfl
        exact stepTo_value (w' := W) (by unfold execOp; simp only [o1, hc]; go_simp) (next (by decide) (by decide) (fun h => absurd h (by decide)) _ _ hS rfl)
      · have o5 : ρ (.tmp 5) = .pointer (some ⟨w.heap.size, 0, none⟩) := hρ.out 5 rfl
        exact stepTo_value (w' := W) (by unfold execOp; simp only [o5, hc]; go_simp) (next (by decide) (by decide) (fun h => absurd h (by decide)) _ _ hS rfl)
      · have g40 : DsG p q w.heap.size y1 y2 er 5 (vs 5) W := hG 5 (haft 5 (by kernel_rfl))
        have s40 : ρ (.tmp 40) = .pointer (some ⟨w.heap.size, 3, none⟩) := (hρ.at_ 40 5 rfl).trans g40
        exact stepTo_value (w' := W) (by unfold execOp; simp only [s40, hc]; go_simp) (next (by decide) (by decide) (fun h => absurd h (by decide)) _ _ hS rfl)
      · have g39 : DsG p q w.heap.size y1 y2 er 4 (vs 4) W := hG 4 (haft 4 (by kernel_rfl))
        have s39 : ρ (.tmp 39) = .pointer (some ⟨q, 0, none⟩) := (hρ.at_ 39 4 rfl).trans g39
        have g41 : DsG p q w.heap.size y1 y2 er 6 (vs 6) W := hG 6 (haft 6 (by kernel_rfl))
        have s41 : ρ (.tmp 41) = .agg #[.int .u64 y1, .int .u64 y2] := (hρ.at_ 41 6 rfl).trans g41
        have yq1 : L 3 = true := haft 3 (by kernel_rfl)
        rw [hli, yq1] at hS
        refine stepTo_enter (f := 35) (args := #[.pointer (some ⟨q, 0, none⟩), .agg #[.int .u64 y1, .int .u64 y2]]) (w' := W) (by unfold execOp; simp only [hfn, s39, s41]; go_simp) ((doS_r H hS HM.out (fun own hd => by have := rsnap_any hd g hg; rw [HD.out, HGV.out] at this; exact this)).mono ?_)
        rintro x W' ⟨rfl, h1⟩
        refine ⟨_, rfl, ?_, ⟨fun _ => by simp [updB, yq1], fun _ => by simp [updB, yq1]⟩, nextG _ _ rfl⟩
        simp only [updB, yq1]
        exact h1
      · have g38 : DsG p q w.heap.size y1 y2 er 3 (vs 3) W := hG 3 (haft 3 (by kernel_rfl))
        have s38 : ρ (.tmp 38) = .int .i64 er := (hρ.at_ 38 3 rfl).trans g38
        have g42 : DsG p q w.heap.size y1 y2 er 7 (vs 7) W := hG 7 (haft 7 (by kernel_rfl))
        have s42 : ρ (.tmp 42) = .int .i64 er := (hρ.at_ 42 7 rfl).trans g42
        exact stepTo_value (w' := W) (by unfold execOp; simp only [s38, s42, hc]; go_simp) (next (by decide) (by decide) (fun h => absurd h (by decide)) _ _ hS rfl)
      · have g43 : DsG p q w.heap.size y1 y2 er 8 (vs 8) W := hG 8 (haft 8 (by kernel_rfl))
        have s43 : ρ (.tmp 43) = .bool true := (hρ.at_ 43 8 rfl).trans g43
        exact stepTo_value (w' := W) (by unfold execOp; simp only [s43, hc]; go_simp) (next (by decide) (by decide) (fun h => absurd h (by decide)) _ _ hS rfl)
    · intro i o L vs W j want ho hli haft hg hv hI
      have hi16 : i < 10 := (Array.getElem?_eq_some_iff.1 ho).1
      rcases i with _ | _ | _ | _ | _ | _ | _ | _ | _ | _ | i
      all_goals (first | omega | skip)
      all_goals simp only [List.getElem?_toArray, List.getElem?_cons_zero, List.getElem?_cons_succ, Option.some.injEq] at ho
      all_goals subst ho
      all_goals simp only [reduceCtorEq] at hg
    · intro vs W hI
      obtain ⟨hS, _, hG⟩ := hI
      have gl : vs 9 = .bool true := hG 9 (by decide) (by decide)
      have HSF : Hid (TwK Is m p q (fun j => X j ∨ j = w.heap.size) w0 D' D' W) := hS
      clear hS hG
      go_wp2_with fail
      refine bodyPost_slot 9 rfl (by decide +kernel) (by kernel_rfl) rfl gl ⟨rfl, ?_⟩
      exact do_end HB0.out HSF.out
end Go.Proofs.Ytfinmfmbbgakhaa.ch

/- What do of the statements does: roll. -/
namespace Go.Proofs.Ytfinmfmbbgakhaa.ch
open Go Go.RowKit Go.Proofs.Ytfinmfmbbgakhaa.ib
set_option maxRecDepth 100000

def DrG (p q g0 : Nat) (n er : Int) : Nat → Value → World → Prop
  | 0, v, _ => v = .pointer (some ⟨p, 0, none⟩)
  | 1, v, _ => v = .pointer (some ⟨g0, 1, none⟩)
  | 2, v, _ => v = .int .i64 n
  | 3, v, _ => v = .int .i64 er
  | 4, v, _ => v = .pointer (some ⟨q, 0, none⟩)
  | 5, v, _ => v = .pointer (some ⟨g0, 1, none⟩)
  | 6, v, _ => v = .int .i64 n
  | 7, v, _ => v = .int .i64 er
  | 8, v, _ => v = .bool true
  | 9, v, _ => v = .bool true
  | _, _, _ => True

set_option maxRecDepth 100000 in
set_option maxHeartbeats 6400000 in
theorem do_roll {Is : IsT} (H : Impl Is) {m p q : Nat} {X : Nat → Prop} {w : World} {d : CH} (h : Tw Is w m p q d d X) (hm : m ≤ w.heap.size) (what : Int) (hw : what = 5) (n : Int) (c : UInt8) (g : Gd) (A : Option Addr) (cap : Nat) (zs : List (Int × UInt8)) (hn : b64 n) :
    Calls Try.prog 16 #[.pointer (some ⟨p, 0, none⟩), .pointer (some ⟨q, 0, none⟩), .agg (ActC.mk what n c g A cap zs).cs] w (DoP Is m p q X w (d.roll n).1 (d.roll n).1) := by
  have HB0 := Lib.hid ((Below.refl w.heap.size w).alloc (Nat.le_refl _) (.cells (ActC.mk what n c g A cap zs).cs 40))
  have HT0 := Lib.hid (act_box H h (ActC.mk what n c g A cap zs).cs 40)
  have HA0 := Lib.hid (Blk.new w 40 (ActC.mk what n c g A cap zs).cs)
  obtain ⟨w0, hw0⟩ : ∃ x, w.alloc (.cells (ActC.mk what n c g A cap zs).cs 40) = x := ⟨_, rfl⟩
  rw [hw0] at HB0 HT0 HA0
  have HM : Hid (m ≤ w0.heap.size) := Nat.le_trans hm HB0.out.size
  clear h
  unfold ActC.cs at hw0 HA0 ⊢
  dsimp only at hw0 HA0 ⊢
  obtain ⟨D', er, hD⟩ : ∃ D' er, d.roll n = (D', er) := ⟨_, _, rfl⟩
  have HD : Hid (d.roll n = (D', er)) := hD
  rw [show (d.roll n).1 = D' from by rw [hD]]
  clear hD

  have HS0 : Hid (DoS Is m p q (fun j => X j ∨ j = w.heap.size) w0 d d D' D' false false w0.drew) := HT0.out.below H (drewC (Below.refl _ _) 1)
  have hlt := HA0.out.lt
  have c0 := HA0.out.cell 0
  simp only [List.getElem?_toArray, List.getElem?_cons_zero, List.getElem?_cons_succ] at c0
  subst hw
  all_goals
    go_enter Try.func16, Try.ntmps16
    go_wp2_with fail
    try rw [hw0]
    clear hw0 c0
    refine wp_region_inv (by kernel_rfl) [46, 47, 48, 49, 50, 51, 52, 53, 54, 6] (by kernel_rfl) (fun L vs W => DoS Is m p q (fun j => X j ∨ j = w.heap.size) w0 d d D' D' (L 3) (L 7) W ∧ ((L 7 = true → L 3 = true) ∧ (L 7 = true → L 3 = true)) ∧ ∀ i, L i = true → i < 10 → DrG p q w.heap.size n er i (vs i) W) ⟨HS0.out, ⟨fun h => (by cases h), fun h => (by cases h)⟩, fun i hi => by cases hi⟩ ?_ ?_ ?_
    · intro i o L vs ρ W ho hli haft hρ hgd hI
      obtain ⟨hS, hC, hG'⟩ := hI
      have hG : ∀ j, L j = true → DrG p q w.heap.size n er j (vs j) W := fun j hj => by
        by_cases h16 : j < 10
        · exact hG' j hj h16
        · match j, h16 with
          | j + 10, _ => exact trivial
      have hi16 : i < 10 := (Array.getElem?_eq_some_iff.1 ho).1
      have hc := hρ.const
      have hfn := hρ.fn
      have nextG : ∀ v W', DrG p q w.heap.size n er i v W' → ∀ j, updB L i j = true → j < 10 → DrG p q w.heap.size n er j (updV vs i v j) W' := fun v W' h2 j hj h16 => by
        by_cases hji : j = i
        · subst hji
          simpa [updV] using h2
        · simp only [updB, if_neg hji] at hj
          have := hG' j hj h16
          simp only [updV, if_neg hji]
          match j, h16, this with
          | 0, _, h => exact h
          | 1, _, h => exact h
          | 2, _, h => exact h
          | 3, _, h => exact h
          | 4, _, h => exact h
          | 5, _, h => exact h
          | 6, _, h => exact h
          | 7, _, h => exact h
          | 8, _, h => exact h
          | 9, _, h => exact h
          | j + 10, h, _ => exact absurd h (by omega)
      have next : i ≠ 3 → i ≠ 7 → (i = 7 → L 3 = true) → ∀ v W', DoS Is m p q (fun j => X j ∨ j = w.heap.size) w0 d d D' D' (L 3) (L 7) W' → DrG p q w.heap.size n er i v W' → DoS Is m p q (fun j => X j ∨ j = w.heap.size) w0 d d D' D' (updB L i 3) (updB L i 7) W' ∧ ((updB L i 7 = true → updB L i 3 = true) ∧ (updB L i 7 = true → updB L i 3 = true)) ∧ ∀ j, updB L i j = true → j < 10 → DrG p q w.heap.size n er j (updV vs i v j) W' := fun n1 n2 n3 v W' h1 h2 => by
        refine ⟨?_, ⟨?_, ?_⟩, nextG v W' h2⟩
        · simp only [updB, if_neg (Ne.symm n1), if_neg (Ne.symm n2)]
          exact h1
        · simp only [updB, if_neg (Ne.symm n1), if_neg (Ne.symm n2)]
          exact hC.1
        · intro hm
          simp only [updB, if_neg (Ne.symm n1)]
          by_cases him : 7 = i
          · exact n3 him.symm
          · simp only [updB, if_neg him] at hm
            exact hC.2 hm
      have hA1 := HA0.out.of_block (hS.2.block hlt (.inl (.inr rfl)))
      have hltW := hA1.lt
      have l1 := hA1.cell 1
      have l2 := hA1.cell 2
      have l3 := hA1.cell 3
      have l4 := hA1.cell 4
      simp only [List.getElem?_toArray, List.getElem?_cons_zero, List.getElem?_cons_succ] at l1 l2 l3 l4
      rcases i with _ | _ | _ | _ | _ | _ | _ | _ | _ | _ | i
      all_goals (first | omega | skip)
      all_goals simp only [List.getElem?_toArray, List.getElem?_cons_zero, List.getElem?_cons_succ, Option.some.injEq] at ho
      all_goals subst ho
      · have o0 : ρ (.tmp 0) = .pointer (some ⟨p, 0, none⟩) := hρ.out 0 rfl
        exact stepTo_value (w' := W) (by unfold execOp; simp only [o0, hc]; go_simp) (next (by decide) (by decide) (fun h => absurd h (by decide)) _ _ hS rfl)
      · have o5 : ρ (.tmp 5) = .pointer (some ⟨w.heap.size, 0, none⟩) := hρ.out 5 rfl
        exact stepTo_value (w' := W) (by unfold execOp; simp only [o5, hc]; go_simp) (next (by decide) (by decide) (fun h => absurd h (by decide)) _ _ hS rfl)
      · have g47 : DrG p q w.heap.size n er 1 (vs 1) W := hG 1 (haft 1 (by kernel_rfl))
        have s47 : ρ (.tmp 47) = .pointer (some ⟨w.heap.size, 1, none⟩) := (hρ.at_ 47 1 rfl).trans g47
        exact stepTo_value (w' := W) (by unfold execOp; simp only [s47, hc]; go_simp) (next (by decide) (by decide) (fun h => absurd h (by decide)) _ _ hS rfl)
      · have g46 : DrG p q w.heap.size n er 0 (vs 0) W := hG 0 (haft 0 (by kernel_rfl))
        have s46 : ρ (.tmp 46) = .pointer (some ⟨p, 0, none⟩) := (hρ.at_ 46 0 rfl).trans g46
        have g48 : DrG p q w.heap.size n er 2 (vs 2) W := hG 2 (haft 2 (by kernel_rfl))
        have s48 : ρ (.tmp 48) = .int .i64 n := (hρ.at_ 48 2 rfl).trans g48
        have n2 : L 7 = false := by
          cases hx : L 7 with
          | false => rfl
          | true => exact absurd (hC.1 hx) (by rw [hli]; decide)
        rw [hli, n2] at hS
        refine stepTo_enter (f := 15) (args := #[.pointer (some ⟨p, 0, none⟩), .int .i64 n]) (w' := W) (by unfold execOp; simp only [hfn, s46, s48]; go_simp) ((doS_l hS HM.out (fun own hd _ => by have := H.roll n hd hn; rw [HD.out] at this; exact this)).mono ?_)
        rintro x W' ⟨rfl, h1⟩
        refine ⟨_, rfl, ?_, ⟨fun _ => by simp [updB], fun _ => by simp [updB]⟩, nextG _ _ rfl⟩
        simp only [updB, n2]
        exact h1
      · have o1 : ρ (.tmp 1) = .pointer (some ⟨q, 0, none⟩) := hρ.out 1 rfl
        exact stepTo_value (w' := W) (by unfold execOp; simp only [o1, hc]; go_simp) (next (by decide) (by decide) (fun h => absurd h (by decide)) _ _ hS rfl)
      · have o5 : ρ (.tmp 5) = .pointer (some ⟨w.heap.size, 0, none⟩) := hρ.out 5 rfl
        exact stepTo_value (w' := W) (by unfold execOp; simp only [o5, hc]; go_simp) (next (by decide) (by decide) (fun h => absurd h (by decide)) _ _ hS rfl)
      · have g51 : DrG p q w.heap.size n er 5 (vs 5) W := hG 5 (haft 5 (by kernel_rfl))
        have s51 : ρ (.tmp 51) = .pointer (some ⟨w.heap.size, 1, none⟩) := (hρ.at_ 51 5 rfl).trans g51
        exact stepTo_value (w' := W) (by unfold execOp; simp only [s51, hc]; go_simp) (next (by decide) (by decide) (fun h => absurd h (by decide)) _ _ hS rfl)
      · have g50 : DrG p q w.heap.size n er 4 (vs 4) W := hG 4 (haft 4 (by kernel_rfl))
        have s50 : ρ (.tmp 50) = .pointer (some ⟨q, 0, none⟩) := (hρ.at_ 50 4 rfl).trans g50
        have g52 : DrG p q w.heap.size n er 6 (vs 6) W := hG 6 (haft 6 (by kernel_rfl))
        have s52 : ρ (.tmp 52) = .int .i64 n := (hρ.at_ 52 6 rfl).trans g52
        have yq1 : L 3 = true := haft 3 (by kernel_rfl)
        rw [hli, yq1] at hS
        refine stepTo_enter (f := 36) (args := #[.pointer (some ⟨q, 0, none⟩), .int .i64 n]) (w' := W) (by unfold execOp; simp only [hfn, s50, s52]; go_simp) ((doS_r H hS HM.out (fun own hd => by have := rroll_any hd n; rw [HD.out] at this; exact this)).mono ?_)
        rintro x W' ⟨rfl, h1⟩
        refine ⟨_, rfl, ?_, ⟨fun _ => by simp [updB, yq1], fun _ => by simp [updB, yq1]⟩, nextG _ _ rfl⟩
        simp only [updB, yq1]
        exact h1
      · have g49 : DrG p q w.heap.size n er 3 (vs 3) W := hG 3 (haft 3 (by kernel_rfl))
        have s49 : ρ (.tmp 49) = .int .i64 er := (hρ.at_ 49 3 rfl).trans g49
        have g53 : DrG p q w.heap.size n er 7 (vs 7) W := hG 7 (haft 7 (by kernel_rfl))
        have s53 : ρ (.tmp 53) = .int .i64 er := (hρ.at_ 53 7 rfl).trans g53
        exact stepTo_value (w' := W) (by unfold execOp; simp only [s49, s53, hc]; go_simp) (next (by decide) (by decide) (fun h => absurd h (by decide)) _ _ hS rfl)
      · have g54 : DrG p q w.heap.size n er 8 (vs 8) W := hG 8 (haft 8 (by kernel_rfl))
        have s54 : ρ (.tmp 54) = .bool true := (hρ.at_ 54 8 rfl).trans g54
        exact stepTo_value (w' := W) (by unfold execOp; simp only [s54, hc]; go_simp) (next (by decide) (by decide) (fun h => absurd h (by decide)) _ _ hS rfl)
    · intro i o L vs W j want ho hli haft hg hv hI
      have hi16 : i < 10 := (Array.getElem?_eq_some_iff.1 ho).1
      rcases i with _ | _ | _ | _ | _ | _ | _ | _ | _ | _ | i
      all_goals (first | omega | skip)
      all_goals simp only [List.getElem?_toArray, List.getElem?_cons_zero, List.getElem?_cons_succ, Option.some.injEq] at ho
      all_goals subst ho
      all_goals simp only [reduceCtorEq] at hg
    · intro vs W hI
      obtain ⟨hS, _, hG⟩ := hI
      have gl : vs 9 = .bool true := hG 9 (by decide) (by decide)
      have HSF : Hid (TwK Is m p q (fun j => X j ∨ j = w.heap.size) w0 D' D' W) := hS
      clear hS hG
      go_wp2_with fail
      refine bodyPost_slot 9 rfl (by decide +kernel) (by kernel_rfl) rfl gl ⟨rfl, ?_⟩
      exact do_end HB0.out HSF.out
end Go.Proofs.Ytfinmfmbbgakhaa.ch

/- What do of the statements does: hide. -/
namespace Go.Proofs.Ytfinmfmbbgakhaa.ch
open Go Go.RowKit Go.Proofs.Ytfinmfmbbgakhaa.ib
set_option maxRecDepth 100000

def DhG (p q g0 : Nat) (y1 y2 er : Int) : Nat → Value → World → Prop
  | 0, v, _ => v = .pointer (some ⟨p, 0, none⟩)
  | 1, v, _ => v = .pointer (some ⟨g0, 3, none⟩)
  | 2, v, _ => v = .agg #[.int .u64 y1, .int .u64 y2]
  | 3, v, _ => v = .int .i64 er
  | 4, v, _ => v = .pointer (some ⟨q, 0, none⟩)
  | 5, v, _ => v = .pointer (some ⟨g0, 3, none⟩)
  | 6, v, _ => v = .agg #[.int .u64 y1, .int .u64 y2]
  | 7, v, _ => v = .int .i64 er
  | 8, v, _ => v = .bool true
  | 9, v, _ => v = .bool true
  | _, _, _ => True

set_option maxRecDepth 100000 in
set_option maxHeartbeats 6400000 in
theorem do_hide {Is : IsT} (H : Impl Is) {m p q : Nat} {X : Nat → Prop} {w : World} {d : CH} (h : Tw Is w m p q d d X) (hm : m ≤ w.heap.size) (what : Int) (hw : what = 6) (n : Int) (c : UInt8) (g : Gd) (A : Option Addr) (cap : Nat) (zs : List (Int × UInt8)) (hg : gdB g) :
    Calls Try.prog 16 #[.pointer (some ⟨p, 0, none⟩), .pointer (some ⟨q, 0, none⟩), .agg (ActC.mk what n c g A cap zs).cs] w (DoP Is m p q X w (d.hide g).1 (d.hide g).1) := by
  have HB0 := Lib.hid ((Below.refl w.heap.size w).alloc (Nat.le_refl _) (.cells (ActC.mk what n c g A cap zs).cs 40))
  have HT0 := Lib.hid (act_box H h (ActC.mk what n c g A cap zs).cs 40)
  have HA0 := Lib.hid (Blk.new w 40 (ActC.mk what n c g A cap zs).cs)
  obtain ⟨w0, hw0⟩ : ∃ x, w.alloc (.cells (ActC.mk what n c g A cap zs).cs 40) = x := ⟨_, rfl⟩
  rw [hw0] at HB0 HT0 HA0
  have HM : Hid (m ≤ w0.heap.size) := Nat.le_trans hm HB0.out.size
  clear h
  unfold ActC.cs at hw0 HA0 ⊢
  dsimp only at hw0 HA0 ⊢
  obtain ⟨D', er, hD⟩ : ∃ D' er, d.hide g = (D', er) := ⟨_, _, rfl⟩
  have HD : Hid (d.hide g = (D', er)) := hD
  rw [show (d.hide g).1 = D' from by rw [hD]]
  clear hD
  obtain ⟨y1, hy1⟩ : ∃ y, (g.1 : Int) = y := ⟨_, rfl⟩
  obtain ⟨y2, hy2⟩ : ∃ y, (g.2 : Int) = y := ⟨_, rfl⟩
  have HGV : Hid (gv g = .agg #[.int .u64 y1, .int .u64 y2]) := by unfold Hid gv; rw [hy1, hy2]
  rw [hy1, hy2] at hw0 HA0 ⊢
  clear hy1 hy2
  have HS0 : Hid (DoS Is m p q (fun j => X j ∨ j = w.heap.size) w0 d d D' D' false false w0.drew) := HT0.out.below H (drewC (Below.refl _ _) 1)
  have hlt := HA0.out.lt
  have c0 := HA0.out.cell 0
  simp only [List.getElem?_toArray, List.getElem?_cons_zero, List.getElem?_cons_succ] at c0
  subst hw
  all_goals
    go_enter Try.func16, Try.ntmps16
    go_wp2_with fail
    try rw [hw0]
    clear hw0 c0
    refine wp_region_inv (by kernel_rfl) [57, 58, 59, 60, 61, 62, 63, 64, 65, 6] (by kernel_rfl) (fun L vs W => DoS Is m p q (fun j => X j ∨ j = w.heap.size) w0 d d D' D' (L 3) (L 7) W ∧ ((L 7 = true → L 3 = true) ∧ (L 7 = true → L 3 = true)) ∧ ∀ i, L i = true → i < 10 → DhG p q w.heap.size y1 y2 er i (vs i) W) ⟨HS0.out, ⟨fun h => (by cases h), fun h => (by cases h)⟩, fun i hi => by cases hi⟩ ?_ ?_ ?_
    · intro i o L vs ρ W ho hli haft hρ hgd hI
      obtain ⟨hS, hC, hG'⟩ := hI
      have hG : ∀ j, L j = true → DhG p q w.heap.size y1 y2 er j (vs j) W := fun j hj => by
        by_cases h16 : j < 10
        · exact hG' j hj h16
        · match j, h16 with
          | j + 10, _ => exact trivial
      have hi16 : i < 10 := (Array.getElem?_eq_some_iff.1 ho).1
      have hc := hρ.const
      have hfn := hρ.fn
      have nextG : ∀ v W', DhG p q w.heap.size y1 y2 er i v W' → ∀ j, updB L i j = true → j < 10 → DhG p q w.heap.size y1 y2 er j (updV vs i v j) W' := fun v W' h2 j hj h16 => by
        by_cases hji : j = i
        · subst hji
          simpa [updV] using h2
        · simp only [updB, if_neg hji] at hj
          have := hG' j hj h16
          simp only [updV, if_neg hji]
          match j, h16, this with
          | 0, _, h => exact h
          | 1, _, h => exact h
          | 2, _, h => exact h
          | 3, _, h => exact h
          | 4, _, h => exact h
          | 5, _, h => exact h
          | 6, _, h => exact h
          | 7, _, h => exact h
          | 8, _, h => exact h
          | 9, _, h => exact h
          | j + 10, h, _ => exact absurd h (by omega)
      have next : i ≠ 3 → i ≠ 7 → (i = 7 → L 3 = true) → ∀ v W', DoS Is m p q (fun j => X j ∨ j = w.heap.size) w0 d d D' D' (L 3) (L 7) W' → DhG p q w.heap.size y1 y2 er i v W' → DoS Is m p q (fun j => X j ∨ j = w.heap.size) w0 d d D' D' (updB L i 3) (updB L i 7) W' ∧ ((updB L i 7 = true → updB L i 3 = true) ∧ (updB L i 7 = true → updB L i 3 = true)) ∧ ∀ j, updB L i j = true → j < 10 → DhG p q w.heap.size y1 y2 er j (updV vs i v j) W' := fun n1 n2 n3 v W' h1 h2 => by
        refine ⟨?_, ⟨?_, ?_⟩, nextG v W' h2⟩
        · simp only [updB, if_neg (Ne.symm n1), if_neg (Ne.symm n2)]
          exact h1
        · simp only [updB, if_neg (Ne.symm n1), if_neg (Ne.symm n2)]
          exact hC.1
        · intro hm
          simp only [updB, if_neg (Ne.symm n1)]
          by_cases him : 7 = i
          · exact n3 him.symm
          · simp only [updB, if_neg him] at hm
            exact hC.2 hm
      have hA1 := HA0.out.of_block (hS.2.block hlt (.inl (.inr rfl)))
      have hltW := hA1.lt
      have l1 := hA1.cell 1
      have l2 := hA1.cell 2
      have l3 := hA1.cell 3
      have l4 := hA1.cell 4
      simp only [List.getElem?_toArray, List.getElem?_cons_zero, List.getElem?_cons_succ] at l1 l2 l3 l4
      rcases i with _ | _ | _ | _ | _ | _ | _ | _ | _ | _ | i
      all_goals (first | omega | skip)
      all_goals simp only [List.getElem?_toArray, List.getElem?_cons_zero, List.getElem?_cons_succ, Option.some.injEq] at ho
      all_goals subst ho
      · have o0 : ρ (.tmp 0) = .pointer (some ⟨p, 0, none⟩) := hρ.out 0 rfl
        exact stepTo_value (w' := W) (by unfold execOp; simp only [o0, hc]; go_simp) (next (by decide) (by decide) (fun h => absurd h (by decide)) _ _ hS rfl)
      · have o5 : ρ (.tmp 5) = .pointer (some ⟨w.heap.size, 0, none⟩) := hρ.out 5 rfl
        exact stepTo_value (w' := W) (by unfold execOp; simp only [o5, hc]; go_simp) (next (by decide) (by decide) (fun h => absurd h (by decide)) _ _ hS rfl)
      · have g58 : DhG p q w.heap.size y1 y2 er 1 (vs 1) W := hG 1 (haft 1 (by kernel_rfl))
        have s58 : ρ (.tmp 58) = .pointer (some ⟨w.heap.size, 3, none⟩) := (hρ.at_ 58 1 rfl).trans g58
        exact stepTo_value (w' := W) (by unfold execOp; simp only [s58, hc]; go_simp) (next (by decide) (by decide) (fun h => absurd h (by decide)) _ _ hS rfl)
      · have g57 : DhG p q w.heap.size y1 y2 er 0 (vs 0) W := hG 0 (haft 0 (by kernel_rfl))
        have s57 : ρ (.tmp 57) = .pointer (some ⟨p, 0, none⟩) := (hρ.at_ 57 0 rfl).trans g57
        have g59 : DhG p q w.heap.size y1 y2 er 2 (vs 2) W := hG 2 (haft 2 (by kernel_rfl))
        have s59 : ρ (.tmp 59) = .agg #[.int .u64 y1, .int .u64 y2] := (hρ.at_ 59 2 rfl).trans g59
        have n2 : L 7 = false := by
          cases hx : L 7 with
          | false => rfl
          | true => exact absurd (hC.1 hx) (by rw [hli]; decide)
        rw [hli, n2] at hS
        refine stepTo_enter (f := 27) (args := #[.pointer (some ⟨p, 0, none⟩), .agg #[.int .u64 y1, .int .u64 y2]]) (w' := W) (by unfold execOp; simp only [hfn, s57, s59]; go_simp) ((doS_l hS HM.out (fun own hd _ => by have := H.hide g hd hg; rw [HD.out, HGV.out] at this; exact this)).mono ?_)
        rintro x W' ⟨rfl, h1⟩
        refine ⟨_, rfl, ?_, ⟨fun _ => by simp [updB], fun _ => by simp [updB]⟩, nextG _ _ rfl⟩
        simp only [updB, n2]
        exact h1
      · have o1 : ρ (.tmp 1) = .pointer (some ⟨q, 0, none⟩) := hρ.out 1 rfl
        exact stepTo_value (w' := W) (by unfold execOp; simp only [o1, hc]; go_simp) (next (by decide) (by decide) (fun h => absurd h (by decide)) _ _ hS rfl)
      · have o5 : ρ (.tmp 5) = .pointer (some ⟨w.heap.size, 0, none⟩) := hρ.out 5 rfl
        exact stepTo_value (w' := W) (by unfold execOp; simp only [o5, hc]; go_simp) (next (by decide) (by decide) (fun h => absurd h (by decide)) _ _ hS rfl)
      · have g62 : DhG p q w.heap.size y1 y2 er 5 (vs 5) W := hG 5 (haft 5 (by kernel_rfl))
        have s62 : ρ (.tmp 62) = .pointer (some ⟨w.heap.size, 3, none⟩) := (hρ.at_ 62 5 rfl).trans g62
        exact stepTo_value (w' := W) (by unfold execOp; simp only [s62, hc]; go_simp) (next (by decide) (by decide) (fun h => absurd h (by decide)) _ _ hS rfl)
      · have g61 : DhG p q w.heap.size y1 y2 er 4 (vs 4) W := hG 4 (haft 4 (by kernel_rfl))
        have s61 : ρ (.tmp 61) = .pointer (some ⟨q, 0, none⟩) := (hρ.at_ 61 4 rfl).trans g61
        have g63 : DhG p q w.heap.size y1 y2 er 6 (vs 6) W := hG 6 (haft 6 (by kernel_rfl))
        have s63 : ρ (.tmp 63) = .agg #[.int .u64 y1, .int .u64 y2] := (hρ.at_ 63 6 rfl).trans g63
        have yq1 : L 3 = true := haft 3 (by kernel_rfl)
        rw [hli, yq1] at hS
        refine stepTo_enter (f := 37) (args := #[.pointer (some ⟨q, 0, none⟩), .agg #[.int .u64 y1, .int .u64 y2]]) (w' := W) (by unfold execOp; simp only [hfn, s61, s63]; go_simp) ((doS_r H hS HM.out (fun own hd => by have := rhide_any hd g; rw [HD.out, HGV.out] at this; exact this)).mono ?_)
        rintro x W' ⟨rfl, h1⟩
        refine ⟨_, rfl, ?_, ⟨fun _ => by simp [updB, yq1], fun _ => by simp [updB, yq1]⟩, nextG _ _ rfl⟩
        simp only [updB, yq1]
        exact h1
      · have g60 : DhG p q w.heap.size y1 y2 er 3 (vs 3) W := hG 3 (haft 3 (by kernel_rfl))
        have s60 : ρ (.tmp 60) = .int .i64 er := (hρ.at_ 60 3 rfl).trans g60
        have g64 : DhG p q w.heap.size y1 y2 er 7 (vs 7) W := hG 7 (haft 7 (by kernel_rfl))
        have s64 : ρ (.tmp 64) = .int .i64 er := (hρ.at_ 64 7 rfl).trans g64
        exact stepTo_value (w' := W) (by unfold execOp; simp only [s60, s64, hc]; go_simp) (next (by decide) (by decide) (fun h => absurd h (by decide)) _ _ hS rfl)
      · have g65 : DhG p q w.heap.size y1 y2 er 8 (vs 8) W := hG 8 (haft 8 (by kernel_rfl))
        have s65 : ρ (.tmp 65) = .bool true := (hρ.at_ 65 8 rfl).trans g65
        exact stepTo_value (w' := W) (by unfold execOp; simp only [s65, hc]; go_simp) (next (by decide) (by decide) (fun h => absurd h (by decide)) _ _ hS rfl)
    · intro i o L vs W j want ho hli haft hg hv hI
      have hi16 : i < 10 := (Array.getElem?_eq_some_iff.1 ho).1
      rcases i with _ | _ | _ | _ | _ | _ | _ | _ | _ | _ | i
      all_goals (first | omega | skip)
      all_goals simp only [List.getElem?_toArray, List.getElem?_cons_zero, List.getElem?_cons_succ, Option.some.injEq] at ho
      all_goals subst ho
      all_goals simp only [reduceCtorEq] at hg
    · intro vs W hI
      obtain ⟨hS, _, hG⟩ := hI
      have gl : vs 9 = .bool true := hG 9 (by decide) (by decide)
      have HSF : Hid (TwK Is m p q (fun j => X j ∨ j = w.heap.size) w0 D' D' W) := hS
      clear hS hG
      go_wp2_with fail
      refine bodyPost_slot 9 rfl (by decide +kernel) (by kernel_rfl) rfl gl ⟨rfl, ?_⟩
      exact do_end HB0.out HSF.out
end Go.Proofs.Ytfinmfmbbgakhaa.ch

