/- JCommit, Step. -/
import Derived.Test.YtjllpbckmioiiaaDoorQ10
import Derived.Test.YtjllpbckmioiiaaDoorQ19
import Derived.Test.YtjllpbckmioiiaaDoorQ20
import Derived.Deep.RegionLaw
import Derived.OwnWalk
import Derived.Below
/- Commit, by what a head's two calls do (written by tools/commit05.py). -/
namespace Go.Proofs.YtjllpbckmioiiaaDoor.jr
open Go Go.RowKit Go.Proofs.YtjllpbckmioiiaaDoor.dk Go.Proofs.YtjllpbckmioiiaaDoor.wi
set_option maxRecDepth 100000

theorem bsAt_below {w w' : World} {a : Option Addr} {bs : List (List Wr)} (h : BsAt w a bs) (hb : Below w.heap.size w w') : BsAt w' a bs := fun i hi => by
  obtain ⟨b, o, A, c, h1, h2, h3, h4⟩ := h i hi
  exact ⟨b, o, A, c, h1, Nat.lt_of_lt_of_le h2 hb.size, by rw [hb.cell (p := ⟨b, o + i, none⟩) h2]; exact h3, h4.below hb (Nat.le_refl _)⟩

theorem bsAt_three {W : World} {A2 A5 A : Option Addr} {r c2 c5 cl n : Nat} {ly l1 l : List Wr} (h1 : ly.length = r) (h2 : l1.length = n) (k1 : WsAt W A2 ly) (k2 : WsAt W A5 l1) (k3 : WsAt W A l) :
    BsAt (W.alloc (.cells #[.slice A2 r c2, .slice A5 n c5, .slice A l.length cl] 32)) (some ⟨W.heap.size, 0, none⟩) [ly, l1, l] := by
  subst h1 h2
  have hB := Blk.new W 32 #[.slice A2 ly.length c2, .slice A5 l1.length c5, .slice A l.length cl]
  have hb := (Below.refl W.heap.size W).alloc (Nat.le_refl _) (.cells #[.slice A2 ly.length c2, .slice A5 l1.length c5, .slice A l.length cl] 32)
  intro i hi
  match i, hi with
  | 0, _ => exact ⟨W.heap.size, 0, A2, c2, rfl, by simp, hB.cell 0, k1.below hb (Nat.le_refl _)⟩
  | 1, _ => exact ⟨W.heap.size, 0, A5, c5, rfl, by simp, hB.cell 1, k2.below hb (Nat.le_refl _)⟩
  | 2, _ => exact ⟨W.heap.size, 0, A, cl, rfl, by simp, hB.cell 2, k3.below hb (Nat.le_refl _)⟩
  | i + 3, h => exact absurd h (by simp only [List.length_cons, List.length_nil]; omega)

/-- What the operations that gather the batches yield. -/
def BatG (a r : Nat) (A8 : Option Addr) (c8 : Nat) (S : ByteArray) (A : Option Addr) (cl : Nat) (l : List Wr) (ly : List Wr) (hd : Bt) : Nat → Value → World → Prop
  | 0, v, _ => v = .agg #[.int .i64 ((1 - a : Nat) : Int), .int .i64 (r : Int)]
  | 1, v, _ => v = .slice A8 r c8
  | 2, v, W => ∃ A2 c2, v = .slice A2 r c2 ∧ WsAt W A2 ly
  | 3, v, _ => v = .agg #[.int .i64 ((1 - a : Nat) : Int), .int .i64 (r : Int)]
  | 4, v, _ => v = .agg #[.int .i64 0, .string S]
  | 5, v, W => ∃ A2 c2, v = .slice A2 1 c2 ∧ WsAt W A2 [(0, hd)]
  | 6, v, _ => v = .slice A l.length cl
  | 7, v, W => ∃ b, v = .slice (some ⟨b, 0, none⟩) 3 3 ∧ BsAt W (some ⟨b, 0, none⟩) [ly, [(0, hd)], l]
  | 8, v, W => ∃ b, v = .slice (some ⟨b, 0, none⟩) 3 3 ∧ BsAt W (some ⟨b, 0, none⟩) [ly, [(0, hd)], l]
  | _, _, _ => True

theorem BatG_mono {a r : Nat} {A8 : Option Addr} {c8 : Nat} {S : ByteArray} {A : Option Addr} {cl : Nat} {l ly : List Wr} {hd : Bt} (i : Nat) (v : Value) (w w' : World) (hi : i < 9) (h : BatG a r A8 c8 S A cl l ly hd i v w) (hb : Below w.heap.size w w') : BatG a r A8 c8 S A cl l ly hd i v w' := by
  match i, hi, h with
  | 0, _, h | 1, _, h | 3, _, h | 4, _, h | 6, _, h => exact h
  | 2, _, ⟨A2, c2, h1, h2⟩ => exact ⟨A2, c2, h1, h2.below hb (Nat.le_refl _)⟩
  | 5, _, ⟨A2, c2, h1, h2⟩ => exact ⟨A2, c2, h1, h2.below hb (Nat.le_refl _)⟩
  | 7, _, ⟨b, h1, h2⟩ => exact ⟨b, h1, bsAt_below h2 hb⟩
  | 8, _, ⟨b, h1, h2⟩ => exact ⟨b, h1, bsAt_below h2 hb⟩
  | j + 9, hi, _ => exact absurd hi (by omega)

theorem stepsOf_len3 (x y z : List Wr) : (stepsOf [x, y, z]).length = x.length + y.length + z.length + 3 := by simp [stepsOf, wsOf]; omega

section
variable {most : Nat} {w : World} {own : Nat → Prop} {p : Nat} {d : DD}

set_option maxHeartbeats 6400000 in
theorem commit_calls (HW : HeadW) (HR : HeadR) (h : DkIs most w own p d) (hn : 145 < d.n) (A : Option Addr) (cl : Nat) (l : List Wr) (hwl : WsAt w A l) (hll : l.length ≤ 1000000) (ht : CTab w) (hm : d.more.length + 150 ≤ most) (hmost : most ≤ 100000) :
    Calls Tryd.prog 8 #[.pointer (some ⟨p, 0, none⟩), .slice A l.length cl] w (DkPost most own p (jcommit d l).2 (.int .i64 (jcommit d l).1) w) := by
  have HD := Lib.hid h
  have HP := Lib.hid (power_any h)
  have HPS := Lib.hid (poss_any h A cl l hwl hll)
  have hpl : p < w.heap.size := by obtain ⟨_, _, _, hd⟩ := h; exact hd.1.lt
  have hn1024 : d.n ≤ 1024 := h.1.n1
  have HT := Lib.hid ht
  have hg := ht.1
  have HH := Lib.hid HR
  have HHW := Lib.hid HW
  have HWL0 := Lib.hid hwl
  clear ht HR HW h hwl
  obtain ⟨R, hR⟩ : ∃ x, jcommit d l = x := ⟨_, rfl⟩
  rw [hR]
  unfold jcommit at hR
  cases hon : d.on with
  | false =>
    rw [hon] at HP
    rw [if_pos hon] at hR
    subst hR
    go_enter Tryd.func8, Tryd.ntmps8
    go_wp2_with (go_at_call 26; refine HP.out.mono ?_; rintro e w' ⟨rfl, rfl⟩)
    go_ret
    exact still_post HD.out (Below.refl _ _)
  | true =>
  rw [hon] at HP
  rw [if_neg (by rw [hon]; simp)] at hR
  by_cases hl0 : l.length = 0
  · rw [if_pos hl0] at hR
    subst hR
    have hl0' : ((l.length : Int) == 0) = true := by simp [hl0]
    go_enter Tryd.func8, Tryd.ntmps8
    go_wp2_with (go_at_call 26; refine HP.out.mono ?_; rintro e w' ⟨rfl, rfl⟩)
    go_ret
    exact still_post HD.out (Below.refl _ _)
  rw [if_neg hl0] at hR
  have hl0' : ((l.length : Int) == 0) = false := by simp only [beq_eq_false_iff_ne, ne_eq]; omega
  by_cases hl60 : 60 < l.length
  · rw [if_pos hl60] at hR
    subst hR
    have hl60' : (60 : Int) < (l.length : Int) := by omega
    go_enter Tryd.func8, Tryd.ntmps8
    go_wp2_with (go_at_call 26; refine HP.out.mono ?_; rintro e w' ⟨rfl, rfl⟩)
    go_ret
    exact still_post HD.out (Below.refl _ _)
  rw [if_neg hl60] at hR
  have hl60' : ¬ (60 : Int) < (l.length : Int) := by omega
  cases hps : poss d.n l with
  | false =>
    rw [hps] at HPS
    rw [if_pos hps] at hR
    subst hR
    go_enter Tryd.func8, Tryd.ntmps8
    go_wp2_with (go_at_call 26; refine HP.out.mono ?_; rintro e w' ⟨rfl, rfl⟩)
    refine HPS.out.mono ?_
    rintro e W1 ⟨rfl, b1⟩
    go_wp2_with fail
    go_ret
    exact still_post HD.out b1
  | true =>
  rw [hps] at HPS
  rw [if_neg (by rw [hps]; simp)] at hR
  have hall := poss_all hps
  have hsm : ∀ x ∈ l, x.1 < 65536 ∧ x.2.length = 32 := fun x hx => by have := hall x hx; exact ⟨by omega, this.2.2⟩
  obtain ⟨s1, s72⟩ := secs_small l (by omega) hsm
  have hrec := recT_small l (by omega) hsm
  have HRR := Lib.hid hR
  have HON := Lib.hid hon
  have HALL := Lib.hid hall
  clear hR hon hps hall hsm
  go_enter Tryd.func8, Tryd.ntmps8
  go_wp2_with (go_at_call 26; refine HP.out.mono ?_; rintro e w' ⟨rfl, rfl⟩)
  refine HPS.out.mono ?_
  rintro e W1 ⟨rfl, b1⟩
  have HB1 := Lib.hid b1
  clear b1 HPS
  go_wp2_with fail
  refine (HH.out most W1 own p d (HD.out.below HB1.out) HON.out (by omega)).mono ?_
  intro e W2 hpost
  obtain ⟨b2, ⟨a, c, hq, rfl⟩ | ⟨hq, x, y, rfl⟩⟩ := headPost_cases hpost
  rotate_left
  · have hRR := HRR.out
    rw [hq] at hRR
    dsimp only at hRR
    subst hRR
    have HB2 := Lib.hid (below_step HB1.out b2)
    clear hpost b2 hq HRR
    go_wp2_with fail
    go_ret
    exact still_post HD.out (below_new HB2.out _)
  have hRR := HRR.out
  rw [hq] at hRR
  dsimp only at hRR
  obtain ⟨ha, hc, _⟩ := hdOf_some hq
  rw [if_neg (by omega)] at hRR
  have HB2 := Lib.hid (below_step HB1.out b2)
  clear b2 hpost hq HRR
  have HRR := Lib.hid hRR
  clear hRR
  have hk6 : Blk (W2.alloc (.cells #[.int .i64 (a : Int), .int .i64 (c : Int)] 54)) W2.heap.size _ _ := Blk.new W2 _ _
  have HK6 := Lib.hid hk6
  have HB3 := Lib.hid (below_new HB2.out (.cells #[.int .i64 (a : Int), .int .i64 (c : Int)] 54))
  clear hk6
  go_wp2_with fail
  refine (put_any A cl l _ (HWL0.out.below HB3.out (Nat.le_refl _)) (by omega) (fun x hx => by have := HALL.out x hx; exact ⟨by omega, this.2.2⟩)).mono ?_
  rintro e W4 ⟨rfl, b4⟩
  have HB4 := Lib.hid (below_step HB3.out b4)
  have HK6' : Hid (Blk W4 W2.heap.size _ _) := HK6.out.of_block (b4.block _ HK6.out.lt)
  clear b4 HK6
  go_wp2_with fail
  refine (pack_any (str (recT l)) W4 (by rw [str_size]; omega) (HT.out.below HB4.out hg)).mono ?_
  rintro e W5 ⟨v8, rfl, hos, b5⟩
  rw [bl_str] at hos
  obtain ⟨A8, c8, rfl, _, _, hsa, _, _⟩ := hos.view
  have HSA := Lib.hid hsa
  have HB5 := Lib.hid (below_step HB4.out b5)
  have hk6 : Blk W5 W2.heap.size _ _ := HK6'.out.of_block (b5.block _ HK6'.out.lt)
  clear hos hsa b5 HK6'
  have HLYL := Lib.hid (layAt_length (secs (recT l)) (1 + (1 - a) * 72))
  have hb8 : batches a l = [lay (1 - a) (secs (recT l)), [(0, hdB (1 - a) (secs (recT l)).length)], l] := rfl
  rw [hb8] at HRR
  clear hb8
  have HLAYF := Lib.hid (fun (W : World) (hsw : StrsAt W A8 (secs (recT l))) => lay_any (1 - a) (secs (recT l)).length (by omega) A8 c8 (secs (recT l)) W hsw (by omega))
  have hly : (lay (1 - a) (secs (recT l))).length = (secs (recT l)).length := HLYL.out
  have hlyb : ∀ x ∈ lay (1 - a) (secs (recT l)), i64B x.1 := fun x hx => by
    obtain ⟨i, g1, g2, _⟩ := layAt_mem _ _ _ hx
    unfold i64B
    have : (1 - a) * 72 ≤ 72 := by omega
    omega
  have HLYB := Lib.hid hlyb
  have HHWf := Lib.hid (fun (W : World) => HHW.out (1 - a) (secs (recT l)).length W (by omega) s72)
  clear hlyb HLYL HHW
  have HHL := Lib.hid (hd_facts (show 1 - a < 2 by omega) s72).1
  generalize lay (1 - a) (secs (recT l)) = ly at *
  generalize hdB (1 - a) (secs (recT l)).length = hd at *
  generalize hrr : (secs (recT l)).length = r at *
  have HLY := Lib.hid hly
  have q60 := hk6.cell 0
  have lt6 := hk6.lt
  have hsub : (1 : Int) - (a : Int) = ((1 - a : Nat) : Int) := by omega
  have hs72 : (r : Int) ≤ 72 := by omega
  have hrw : ¬ (72 : Int) < (r : Int) := by omega
  have HSUB := Lib.hid hsub
  clear hly hk6 hsub
  go_wp2_with fail
  have hhl : hd.length = 32 := HHL.out
  obtain ⟨w0, hw0⟩ : ∃ x, W5.alloc (.cells #[.int .i64 (1 - (a : Int)), .int .i64 (r : Int)] 54) = x := ⟨_, rfl⟩
  have hk10 : Blk w0 W5.heap.size 54 #[.int .i64 (1 - (a : Int)), .int .i64 (r : Int)] := by rw [← hw0]; exact Blk.new W5 _ _
  rw [HSUB.out] at hk10
  have hb50 : Below W5.heap.size W5 w0 := by rw [← hw0]; exact (Below.refl W5.heap.size W5).alloc (Nat.le_refl _) _
  rw [hw0]
  have HB0 := Lib.hid (below_step HB5.out hb50)
  have HK10 := Lib.hid hk10
  obtain ⟨S, hS⟩ : ∃ s, str hd = s := ⟨_, rfl⟩
  rw [hS] at HHWf
  have HSS := Lib.hid hS
  have HWR := HHWf
  have hlay : ∀ W, Below w0.heap.size w0 W → Calls Tryd.prog 31 #[.agg #[.int .i64 ((1 - a : Nat) : Int), .int .i64 (r : Int)], .slice A8 r c8] W fun e W' => ∃ A2 c2, e = .returned (.slice A2 r c2) ∧ WsAt W' A2 ly ∧ Below W.heap.size W W' := fun W hb => by
    refine (HLAYF.out W ((HSA.out.below hb50 (Nat.le_refl _)).below hb (Nat.le_refl _))).mono ?_
    rintro e W' ⟨v, rfl, ho, hb'⟩
    obtain ⟨A2, c2, rfl, hw2⟩ := ho.view HLYB.out
    exact ⟨A2, c2, by rw [HLY.out], hw2, hb'⟩
  have HLAY := Lib.hid hlay
  have hwl2 : ∀ W, Below w0.heap.size w0 W → WsAt W A l := fun W hb => HWL0.out.below (below_step HB0.out hb) (Nat.le_refl _)
  have HWL := Lib.hid hwl2
  clear hw0 hk10 hb50 hS HHWf HLAYF hlay hwl2 q60 lt6 hhl
  generalize hg10 : W5.heap.size = g10 at *
  clear hg10
  refine wp_region_inv (by kernel_rfl) [55, 56, 57, 58, 59, 60, 61, 62, 11] (by kernel_rfl) (fun L vs W => Below w0.heap.size w0 W ∧ ∀ i, L i = true → i < 9 → BatG a r A8 c8 S A cl l ly hd i (vs i) W) ⟨(Below.refl w0.heap.size w0).drew, fun i hi => by cases hi⟩ ?_ ?_ ?_
  · intro i o L vs ρ W ho hli haft hρ hgd hI
    obtain ⟨hb, hG'⟩ := hI
    have hG : ∀ j, L j = true → BatG a r A8 c8 S A cl l ly hd j (vs j) W := fun j hj => by
      by_cases h9 : j < 9
      · exact hG' j hj h9
      · match j, h9 with
        | j + 9, _ => exact trivial
    have hi9 : i < 9 := (Array.getElem?_eq_some_iff.1 ho).1
    have hc := hρ.const
    have hfn := hρ.fn
    have next : ∀ v W', Below W.heap.size W W' → BatG a r A8 c8 S A cl l ly hd i v W' → Below w0.heap.size w0 W' ∧ ∀ j, updB L i j = true → j < 9 → BatG a r A8 c8 S A cl l ly hd j (updV vs i v j) W' := fun v W' h1 h2 => by
      refine ⟨below_step hb h1, fun j hj h9 => ?_⟩
      by_cases hji : j = i
      · subst hji
        simpa [updV] using h2
      · simp only [updB, if_neg hji] at hj
        simpa [updV, hji] using BatG_mono j _ W W' h9 (hG' j hj h9) h1
    have hK : Blk W g10 _ _ := HK10.out.of_block (hb.block _ HK10.out.lt)
    have q0 := hK.cell 0
    have q1 := hK.cell 1
    have lt10 := hK.lt
    clear hK
    rcases i with _ | _ | _ | _ | _ | _ | _ | _ | _ | i
    all_goals (first | omega | skip)
    all_goals simp only [List.getElem?_toArray, List.getElem?_cons_zero, List.getElem?_cons_succ, Option.some.injEq] at ho
    all_goals subst ho
    · have o10 : ρ (.tmp 10) = .pointer (some ⟨g10, 0, none⟩) := hρ.out 10 rfl
      exact stepTo_value (w' := W) (by unfold execOp; simp only [o10]; go_simp) (next _ _ (Below.refl _ _) rfl)
    · have o8 : ρ (.tmp 8) = .slice A8 r c8 := hρ.out 8 rfl
      exact stepTo_value (w' := W) (by unfold execOp; simp only [o8]; go_simp) (next _ _ (Below.refl _ _) rfl)
    · have g55 : BatG a r A8 c8 S A cl l ly hd 0 (vs 0) W := hG 0 (haft 0 (by kernel_rfl))
      have s55 : ρ (.tmp 55) = .agg #[.int .i64 ((1 - a : Nat) : Int), .int .i64 (r : Int)] := (hρ.at_ 55 0 rfl).trans g55
      have g56 : BatG a r A8 c8 S A cl l ly hd 1 (vs 1) W := hG 1 (haft 1 (by kernel_rfl))
      have s56 : ρ (.tmp 56) = .slice A8 r c8 := (hρ.at_ 56 1 rfl).trans g56
      refine stepTo_enter (f := 31) (args := #[.agg #[.int .i64 ((1 - a : Nat) : Int), .int .i64 (r : Int)], .slice A8 r c8]) (w' := W) (by unfold execOp; simp only [hfn, s55, s56]; go_simp) ((HLAY.out W hb).mono ?_)
      rintro x W' ⟨A2, c2, rfl, hw2, hb'⟩
      exact ⟨_, rfl, next _ _ hb' ⟨A2, c2, rfl, hw2⟩⟩
    · have o10 : ρ (.tmp 10) = .pointer (some ⟨g10, 0, none⟩) := hρ.out 10 rfl
      exact stepTo_value (w' := W) (by unfold execOp; simp only [o10]; go_simp) (next _ _ (Below.refl _ _) rfl)
    · have g58 : BatG a r A8 c8 S A cl l ly hd 3 (vs 3) W := hG 3 (haft 3 (by kernel_rfl))
      have s58 : ρ (.tmp 58) = .agg #[.int .i64 ((1 - a : Nat) : Int), .int .i64 (r : Int)] := (hρ.at_ 58 3 rfl).trans g58
      refine stepTo_enter (f := 32) (args := #[.agg #[.int .i64 ((1 - a : Nat) : Int), .int .i64 (r : Int)]]) (w' := W) (by unfold execOp; simp only [hfn, s58]; go_simp) ((HWR.out W).mono ?_)
      rintro x W' ⟨rfl, hb'⟩
      exact ⟨_, rfl, next _ _ hb' rfl⟩
    · have g59 : BatG a r A8 c8 S A cl l ly hd 4 (vs 4) W := hG 4 (haft 4 (by kernel_rfl))
      have s59 : ρ (.tmp 59) = .agg #[.int .i64 0, .string S] := (hρ.at_ 59 4 rfl).trans g59
      exact stepTo_value (v := .slice (some ⟨W.heap.size, 0, none⟩) 1 1) (w' := W.alloc (.cells #[.int .i64 0, .string S] 49)) (by unfold execOp; simp only [s59]; go_simp) (next _ _ ((Below.refl _ _).alloc (Nat.le_refl _) _) ⟨_, 1, rfl, by rw [← HSS.out]; exact wsAt_one 0 hd (by unfold i64B; omega)⟩)
    · have o1 : ρ (.tmp 1) = .slice A l.length cl := hρ.out 1 rfl
      exact stepTo_value (w' := W) (by unfold execOp; simp only [o1]; go_simp) (next _ _ (Below.refl _ _) rfl)
    · obtain ⟨A2, c2, g57, hw2⟩ : BatG a r A8 c8 S A cl l ly hd 2 (vs 2) W := hG 2 (haft 2 (by kernel_rfl))
      have s57 : ρ (.tmp 57) = .slice A2 r c2 := (hρ.at_ 57 2 rfl).trans g57
      obtain ⟨A5, c5, g60, hw5⟩ : BatG a r A8 c8 S A cl l ly hd 5 (vs 5) W := hG 5 (haft 5 (by kernel_rfl))
      have s60 : ρ (.tmp 60) = .slice A5 1 c5 := (hρ.at_ 60 5 rfl).trans g60
      have g61 : BatG a r A8 c8 S A cl l ly hd 6 (vs 6) W := hG 6 (haft 6 (by kernel_rfl))
      have s61 : ρ (.tmp 61) = .slice A l.length cl := (hρ.at_ 61 6 rfl).trans g61
      exact stepTo_value (v := .slice (some ⟨W.heap.size, 0, none⟩) 3 3) (w' := W.alloc (.cells #[.slice A2 r c2, .slice A5 1 c5, .slice A l.length cl] 32)) (by unfold execOp; simp only [s57, s60, s61]; go_simp) (next _ _ ((Below.refl _ _).alloc (Nat.le_refl _) _) ⟨_, rfl, bsAt_three HLY.out rfl hw2 hw5 (HWL.out W hb)⟩)
    · obtain ⟨b, g62, hb62⟩ : BatG a r A8 c8 S A cl l ly hd 7 (vs 7) W := hG 7 (haft 7 (by kernel_rfl))
      have s62 : ρ (.tmp 62) = .slice (some ⟨b, 0, none⟩) 3 3 := (hρ.at_ 62 7 rfl).trans g62
      exact stepTo_value (w' := W) (by unfold execOp; simp only [s62]; go_simp) (next _ _ (Below.refl _ _) ⟨b, rfl, hb62⟩)
  · intro i o L vs W j want ho hli haft hg hv hI
    have hi9 : i < 9 := (Array.getElem?_eq_some_iff.1 ho).1
    rcases i with _ | _ | _ | _ | _ | _ | _ | _ | _ | i
    all_goals (first | omega | skip)
    all_goals simp only [List.getElem?_toArray, List.getElem?_cons_zero, List.getElem?_cons_succ, Option.some.injEq] at ho
    all_goals subst ho
    all_goals simp only [reduceCtorEq] at hg
  intro vs W9 hI
  obtain ⟨b9, hG⟩ := hI
  obtain ⟨b, g8, hbs⟩ : BatG a r A8 c8 S A cl l ly hd 8 (vs 8) W9 := hG 8 (by decide) (by decide)
  have HB9 := Lib.hid (HB0.out.trans (b9.mono HB0.out.size))
  have HBS := Lib.hid hbs
  simp only [putList, putSel, if_true]
  rw [g8]
  generalize vs 0 = x0 at *
  generalize vs 1 = x1 at *
  generalize vs 2 = x2 at *
  generalize vs 3 = x3 at *
  generalize vs 4 = x4 at *
  generalize vs 5 = x5 at *
  generalize vs 6 = x6 at *
  generalize vs 7 = x7 at *
  clear hG g8 b9 hbs
  go_wp2_with fail
  have hbl : ∀ m ∈ [ly, [(0, hd)], l], m.length ≤ 1000 := fun m hm2 => by
    simp only [List.mem_cons, List.not_mem_nil, or_false] at hm2
    rcases hm2 with rfl | rfl | rfl
    · rw [HLY.out]; omega
    · simp
    · omega
  have HBL := Lib.hid hbl
  clear hbl
  refine (places_any (some ⟨b, 0, none⟩) 3 [ly, [(0, hd)], l] W9 HBS.out (by simp) HBL.out).mono ?_
  rintro e W10 ⟨v10, rfl, ho10, b10⟩
  obtain ⟨A10, c10, rfl, hints⟩ := ho10.view (fun z hz => by
    simp only [placesOf, List.flatten_cons, List.flatten_nil, List.map_append, List.mem_append, List.mem_map, List.map_nil, List.not_mem_nil, or_false] at hz
    rcases hz with ⟨x, hx, rfl⟩ | ⟨x, hx, rfl⟩ | ⟨x, hx, rfl⟩
    · exact HLYB.out x hx
    · obtain rfl : x = _ := by simpa using hx
      unfold i64B
      dsimp only
      omega
    · have := HALL.out x hx
      unfold i64B
      omega)
  have HI := Lib.hid hints
  have HB10 := Lib.hid (below_step HB9.out b10)
  have HBS10 := Lib.hid (bsAt_below HBS.out b10)
  have hzl := placesOf_len [ly, [(0, hd)], l] HBL.out
  simp only [List.length_cons, List.length_nil] at hzl
  clear ho10 hints b10 HBS
  go_wp2_with fail
  refine (fits_any (HD.out.below HB10.out) A10 c10 _ HI.out (by omega)).mono ?_
  rintro e W11 ⟨rfl, b11⟩
  have HB11 := Lib.hid (below_step HB10.out b11)
  have HBS11 := Lib.hid (bsAt_below HBS10.out b11)
  clear b11 HBS10
  cases hfit : d.fits (placesOf [ly, [(0, hd)], l]) with
  | false =>
    have hRR := HRR.out
    rw [if_pos hfit] at hRR
    subst hRR
    go_wp2_with fail
    go_ret
    exact still_post HD.out HB11.out
  | true =>
    have hRR := HRR.out
    rw [if_neg (by rw [hfit]; simp)] at hRR
    have HRR2 := Lib.hid hRR
    clear hRR HRR
    go_wp2_with fail
    refine (writing_any p _ 3 [ly, [(0, hd)], l] _ (Nat.lt_of_lt_of_le hpl HB11.out.size) HBS11.out (by simp) HBL.out).mono ?_
    rintro e W12 ⟨v, rfl, hgg⟩
    have HG := Lib.hid hgg
    clear hgg
    go_wp2_with fail
    refine (run_after (HD.out.below HB11.out) HG.out (by rw [stepsOf_len3, HLY.out]; simp; omega) hmost).mono ?_
    rintro e W13 hpost
    have HPO := Lib.hid (DkPost.from hpost HB11.out HD.out.low)
    obtain ⟨rfl, _⟩ := hpost
    rw [HRR2.out] at HPO ⊢
    go_wp2_with fail
    go_ret
    exact HPO.out
end
end Go.Proofs.YtjllpbckmioiiaaDoor.jr

/- append onto a row of the call's own, as one step of a region that draws its order. -/
namespace Go.Proofs.YtjllpbckmioiiaaDoor
open Go Go.RowKit
set_option maxRecDepth 100000

theorem step_append_own {P : Program} {ops : Array Oper} {o : Oper} {a : Act} {w : World} {K : Act → World → Prop} {Q : Exit → Act → World → Prop} {E : Prop} (hg : o.guard = none) (s x : Operand) (t : TypeId)
    (ho : o.op = .call { callee := .builtin .append, args := #[s, x], argTypes := #[t, t] })
    (base : Nat) (e : TypeId) (i : TypeInfo) (z : Value) (size bytes : Nat) (ht : P.underlying t = some (.slice e)) (hi : P.info? e = some i) (hz : i.zero = some z)
    (hsize : i.size = size) (hby : i.bytes = bytes) (hzs : z.cells.size = size) (hsz : 0 < size)
    (v : Value) (n : Nat) (xs : List Value) (hs : a.eval s = v) (hown : w.ownsRow base e size v n xs)
    (ad : Addr) (m c : Nat) (news : List Value) (hx : a.eval x = .slice (some ad) m c) (hl : news.length = m * size) (hnews : ∀ j u, news[j]? = some u → w.cell? (ad.add j) = some u) (h1 : ∀ u ∈ news, u.oneCell' = true)
    (h63 : n + m ≤ maxLen) (hbytes : (n + m) * bytes ≤ 140737488355328) (hbase : base ≤ w.heap.size)
    (h : ∀ v' w', Hid (w'.ownsRow base e size v' (n + m) (xs ++ news)) → Hid (w.grownBy w' v.ownBlock) → K (a.put o.dst v') w') :
    if Region.wanted o (yielded ops a.tmps) = true then Oper.wp P o a w K Q else E := by
  have hw : Region.wanted o (yielded ops a.tmps) = true := by simp [Region.wanted, hg]
  rw [if_pos hw]
  exact wp_append_own w s x t ho base e i z size bytes ht hi hz hsize hby hzs hsz v n xs hs hown ad m c news hx hl hnews h1 h63 hbytes hbase (fun v' w' h2 h3 _ => h v' w' h2 h3)

end Go.Proofs.YtjllpbckmioiiaaDoor

