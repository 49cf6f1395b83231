/- The walk of DiskFits. -/
import Derived.Test.YtmacnghnjnkopaaRkTwo
import Derived.Test.YtmacnghnjnkopaaDkWorks
import Derived.Test.YtmacnghnjnkopaaDkArgs
namespace Go.Proofs.Ytmacnghnjnkopaa.dk
open Go Go.RowKit

theorem stepTo_enter {P : Program} {o : Oper} {ρ : Operand → Value} {w w' : World} {f : FuncId} {args : Array Value} {K : Value → World → Prop} (h : (execOp ρ o).run P w = .ok (.enter f args) w') (hk : Calls P f args w' fun e w'' => ∃ v, e = .returned v ∧ K v w'') : stepTo P K ((execOp ρ o).run P w) := by
  rw [h]
  exact hk

theorem wp_region_slots_f {P : Program} {ops : Array Oper} {Q : Exit → Act → World → Prop} {id : Nat} {a : Act} {w : World} (hm : P.follows .mixedOrders = true) (m : Nat) (ds : List Tmp) (hok : slotsB ops m ds a.tmps.size = true) (G : Nat → Value → World → Prop)
    (mono : ∀ i v w w', i < m → G i v w → Below w.heap.size w w' → G i v w')
    (step : ∀ i o vs ρ w', i < m → ops[i]? = some o → Reads a ds vs ρ → (∀ f, ρ (.func f) = a.eval (.func f)) → Below w.heap.size w w' → (∀ j, afterB ops i j = true → G j (vs j) w') →
      stepTo P (fun v w'' => Below w'.heap.size w' w'' ∧ G i v w'') ((execOp ρ o).run P w'))
    (fin : ∀ vs w', Below w.heap.size w w' → (∀ i, i < m → G i (vs i) w') → wpAny P .any ops Q (ops.size - m) (listedTo ops.size m) (putList vs ds a) w') :
    (Code.region id ops true).wp P Q a w :=
  wp_region_slots hm m ds hok G mono (fun i o vs w' hi ho hb hG => step i o vs (valOf a ds vs) w' hi ho ⟨fun _ _ h => valOf_some h, fun _ h => valOf_none h, fun _ => rfl⟩ (fun _ => rfl) hb hG) fin

/-- What the operations of a Write's statement yield. -/
def WG (p : Value) (bb bo k n c z : Nat) (at_ : Int) (S : ByteArray) : Nat → Value → World → Prop
  | 0, v, _ => v = p
  | 1, v, _ => v = .slice (some ⟨bb, bo, none⟩) n c
  | 2, v, _ => v = .int .i64 (k : Int)
  | 3, v, _ => v = .pointer (some ⟨bb, bo + k, none⟩)
  | 4, v, _ => v = .int .u8 (z : Int)
  | 5, v, _ => v = .int .u8 at_
  | 6, v, _ => v = .int .i64 at_
  | 7, v, _ => v = .string S
  | _, _, _ => True

theorem WG_mono (p : Value) (bb bo k n c z : Nat) (at_ : Int) (S : ByteArray) (i : Nat) (v : Value) (w w' : World) (hi : i < 8) (h : WG p bb bo k n c z at_ S i v w) (hb : Below w.heap.size w w') : WG p bb bo k n c z at_ S i v w' := by
  match i, hi, h with
  | 0, _, h | 1, _, h | 2, _, h | 3, _, h | 4, _, h | 5, _, h | 6, _, h | 7, _, h => exact h

theorem write_more (d : DD) (k : Int) (v : Bt) : (d.write k v).2.more.length ≤ d.more.length + 1 := by
  have ho := (oper_rest d).2.1
  unfold DD.write
  split
  · simp
  · split
    · simp
    · split
      · simp
      · split
        · simp [ho]
        · simp

def FitsRel (w : World) (p r : Nat) (us : List UInt8) (i : Value) (wr : World) : Prop :=
  ∃ (k : Nat) (d : DD), k ≤ us.length ∧ k ≤ 60 ∧ i = .int .i64 (k : Int) ∧ Both 100 wr w.heap.size p r d d ∧ d.more.length ≤ k ∧ Below w.heap.size w wr

set_option maxRecDepth 100000 in
set_option maxHeartbeats 3200000 in
theorem diskFits_walk (A : Option Addr) (c : Nat) (zs : List Int) (A1 : Option Addr) (c1 : Nat) (us : List UInt8) (a2 : Int) (w2 : (Lit.int .u8 a2).wf = true) (w : World)
    (hl : zs.length ≤ 9223372036854775807 ∧ zs.length ≤ c) (hT : IntsAt w A zs) (hl1 : us.length ≤ 9223372036854775807) (hT1 : U8At w A1 us) :
    Calls Try.prog 4 #[.slice A zs.length c, .slice A1 us.length c1, .int .u8 a2] w (okB true w) := by
  have hb := bounds_u8 w2
  obtain ⟨room, rfl⟩ := Int.eq_ofNat_of_zero_le (show 0 ≤ a2 from by omega)
  have hn : room < 256 := by omega
  clear hb w2
  have HT := Lib.hid hT
  have HT1 := Lib.hid hT1
  clear hT hT1
  obtain ⟨S97, H97⟩ : ∃ s, Hid (str (dat 97) = s) := ⟨_, rfl⟩
  have L97 : Hid (bl S97 = dat 97) := by unfold Hid; rw [← H97.out, bl_str]
  go_enter Try.func4, Try.ntmps4
  go_wp2_with fail
  refine (new_some 100 40 (room : Int) (by decide) (by decide) (by omega) (by omega) _).mono ?_
  rintro e W1 ⟨p, own, rfl, hd, hb, ho⟩
  have HD := Lib.hid hd
  have HB1 := Lib.hid hb
  have HO := Lib.hid ho
  clear hd hb ho
  go_wp2_with fail
  refine (new_two 100 40 (room : Int) (by decide) (by decide) (by omega) (by omega) w W1 p own HD.out HB1.out HO.out).mono ?_
  rintro e W2 ⟨r, rfl, hbo, hb⟩
  have HBo := Lib.hid hbo
  have HB := Lib.hid hb
  clear hbo hb HD HB1 HO
  go_wp2_with fail
  go_loopw [9] (fun i wr => FitsRel w p r us i wr) (fun i _ => 61 - (intOf i).toNat)
  case atStart => exact ⟨0, _, Nat.zero_le _, Nat.zero_le _, rfl, HBo.out, Nat.le_refl _, HB.out⟩
  case round =>
    obtain ⟨k, d, hk, hk60, rfl, hbo, hml, hB⟩ := hrel
    have H1 := Lib.hid hbo
    have B1 := Lib.hid hB
    clear hbo hB HBo HB
    by_cases hgo : k < us.length ∧ k < 60
    · obtain ⟨hlt, hlt2⟩ := hgo
      obtain ⟨bb, bo, rfl, hbb, hcell0⟩ := HT1.out k hlt
      have hcell : wr.cell? ⟨bb, bo + k, none⟩ = some (.int .u8 (us[k].toNat : Int)) := by rw [B1.out.cell (p := ⟨bb, bo + k, none⟩) hbb]; exact hcell0
      have hbw : bb < wr.heap.size := Nat.lt_of_lt_of_le hbb B1.out.size
      have hcz := us[k].toNat_lt
      generalize us[k].toNat = cz at *
      obtain ⟨at_, hat⟩ : ∃ a, a = cz % 40 := ⟨_, rfl⟩
      have hae : (cz : Int) % 40 = (at_ : Int) := by omega
      have ha40 : at_ < 40 := by omega
      have HTM : Hid ((cz : Int).tmod 40 = (at_ : Int)) := by unfold Hid; rw [Int.tmod_eq_emod_of_nonneg (by omega)]; exact hae
      have HWR : Hid (IntKind.i64.wrap (at_ : Int) = (at_ : Int)) := IntWalk.i64_in _ (by omega)
      have hk1 : (k : Int) < (us.length : Int) := by omega
      clear hcell0 hat
      go_wp2_with fail
      refine wp_region_slots_f (by kernel_rfl) 8 [28, 29, 30, 31, 32, 33, 34, 35] (by kernel_rfl) (WG (.pointer (some ⟨p, 0, none⟩)) bb bo k us.length c1 cz (at_ : Int) S97) (WG_mono _ _ _ _ _ _ _ _ _) ?_ ?_
      · intro i o vs ρ W hi ho hρ hfn hb hG
        have t0 : ρ (.tmp 7) = .pointer (some ⟨p, 0, none⟩) := hρ.out 7 rfl
        have t1 : ρ (.tmp 1) = .slice (some ⟨bb, bo, none⟩) us.length c1 := hρ.out 1 rfl
        have t9 : ρ (.tmp 9) = .int .i64 (k : Int) := hρ.out 9 rfl
        have s1 := hρ.at_ 29 1 rfl
        have s2 := hρ.at_ 30 2 rfl
        have s3 := hρ.at_ 31 3 rfl
        have s4 := hρ.at_ 32 4 rfl
        have s5 := hρ.at_ 33 5 rfl
        have hc := hρ.const
        have q4 : W.cell? ⟨bb, bo + k, none⟩ = some (.int .u8 (cz : Int)) := by rw [hb.cell (p := ⟨bb, bo + k, none⟩) hbw]; exact hcell
        rcases i with _ | _ | _ | _ | _ | _ | _ | _ | i
        all_goals (first | omega | skip)
        all_goals simp only [List.getElem?_toArray, List.getElem?_cons_zero, List.getElem?_cons_succ, Option.some.injEq] at ho
        all_goals subst ho
        · exact stepTo_value (w' := W) (by unfold execOp; simp only [t0]; go_simp) ⟨Below.refl _ _, rfl⟩
        · exact stepTo_value (w' := W) (by unfold execOp; simp only [t1]; go_simp) ⟨Below.refl _ _, rfl⟩
        · exact stepTo_value (w' := W) (by unfold execOp; simp only [t9]; go_simp) ⟨Below.refl _ _, rfl⟩
        · have g1 : vs 1 = _ := hG 1 (by kernel_rfl)
          have g2 : vs 2 = _ := hG 2 (by kernel_rfl)
          exact stepTo_value (w' := W) (by unfold execOp; simp only [s1, g1, s2, g2]; go_simp) ⟨Below.refl _ _, rfl⟩
        · have g3 : vs 3 = _ := hG 3 (by kernel_rfl)
          exact stepTo_value (w' := W) (by unfold execOp; simp only [s3, g3]; go_simp) ⟨Below.refl _ _, rfl⟩
        · have g4 : vs 4 = _ := hG 4 (by kernel_rfl)
          exact stepTo_value (w' := W) (by unfold execOp; simp only [s4, g4, hc]; go_simp; exact HTM.out) ⟨Below.refl _ _, rfl⟩
        · have g5 : vs 5 = _ := hG 5 (by kernel_rfl)
          exact stepTo_value (w' := W) (by unfold execOp; simp only [s5, g5]; go_simp; exact HWR.out) ⟨Below.refl _ _, rfl⟩
        · refine stepTo_enter (f := 16) (args := #[.int .u8 97]) (w' := W) (by unfold execOp; simp only [hc, hfn]; go_simp) ((data_any 97 W).mono ?_)
          rintro x W' ⟨rfl, hb'⟩
          exact ⟨_, rfl, hb', by rw [H97.out]; rfl⟩
      · intro vs W hb hG
        have g0 : vs 0 = _ := hG 0 (by decide)
        have g6 : vs 6 = _ := hG 6 (by decide)
        have g7 : vs 7 = _ := hG 7 (by decide)
        simp only [putList, putSel, if_true]
        rw [g0, g6, g7]
        generalize vs 1 = x1
        generalize vs 2 = x2
        generalize vs 3 = x3
        generalize vs 4 = x4
        generalize vs 5 = x5
        clear hG g0 g6 g7
        refine wpAny_one (i := 8) (by kernel_rfl) rfl rfl ?_
        go_simp
        refine (write_two (H1.out.below hb) (Nat.le_trans B1.out.size hb.size) (by omega) (by decide) (at_ : Int) S97 _ L97.out _ rfl rfl).mono ?_
        rintro e W5 ⟨rfl, i5, b5⟩
        have hm5 := write_more d (at_ : Int) (dat 97)
        have hcell5 : W5.cell? ⟨bb, bo + k, none⟩ = some (.int .u8 (cz : Int)) := by rw [b5.cell (p := ⟨bb, bo + k, none⟩) hbb, hb.cell (p := ⟨bb, bo + k, none⟩) hbw]; exact hcell
        have I5 := Lib.hid i5
        have B5 := Lib.hid ((B1.out.trans (hb.mono B1.out.size)).trans b5)
        have hbw5 : bb < W5.heap.size := Nat.lt_of_lt_of_le hbb B5.out.size
        clear i5 b5 hb hcell hbw H1 B1
        dsimp only
        generalize (d.write (at_ : Int) (dat 97)).1 = v5 at *
        obtain ⟨d2, hd2⟩ : ∃ x, (d.write (at_ : Int) (dat 97)).2 = x := ⟨_, rfl⟩
        rw [hd2] at I5 hm5
        have HD2 := Lib.hid hd2
        clear hd2
        have hm6 : d2.more.length ≤ k + 1 := by omega
        clear hm5
        refine ⟨by kernel_rfl, ?_⟩
        go_wp2_with fail
        refine wp_region_slots_f (by kernel_rfl) 8 [37, 38, 39, 40, 41, 42, 43, 44] (by kernel_rfl) (WG (.pointer (some ⟨r, 0, none⟩)) bb bo k us.length c1 cz (at_ : Int) S97) (WG_mono _ _ _ _ _ _ _ _ _) ?_ ?_
        · intro i o vs ρ W hi ho hρ hfn hb hG
          have t0 : ρ (.tmp 8) = .pointer (some ⟨r, 0, none⟩) := hρ.out 8 rfl
          have t1 : ρ (.tmp 1) = .slice (some ⟨bb, bo, none⟩) us.length c1 := hρ.out 1 rfl
          have t9 : ρ (.tmp 9) = .int .i64 (k : Int) := hρ.out 9 rfl
          have s1 := hρ.at_ 38 1 rfl
          have s2 := hρ.at_ 39 2 rfl
          have s3 := hρ.at_ 40 3 rfl
          have s4 := hρ.at_ 41 4 rfl
          have s5 := hρ.at_ 42 5 rfl
          have hc := hρ.const
          have q4 : W.cell? ⟨bb, bo + k, none⟩ = some (.int .u8 (cz : Int)) := by rw [hb.cell (p := ⟨bb, bo + k, none⟩) hbw5]; exact hcell5
          rcases i with _ | _ | _ | _ | _ | _ | _ | _ | i
          all_goals (first | omega | skip)
          all_goals simp only [List.getElem?_toArray, List.getElem?_cons_zero, List.getElem?_cons_succ, Option.some.injEq] at ho
          all_goals subst ho
          · exact stepTo_value (w' := W) (by unfold execOp; simp only [t0]; go_simp) ⟨Below.refl _ _, rfl⟩
          · exact stepTo_value (w' := W) (by unfold execOp; simp only [t1]; go_simp) ⟨Below.refl _ _, rfl⟩
          · exact stepTo_value (w' := W) (by unfold execOp; simp only [t9]; go_simp) ⟨Below.refl _ _, rfl⟩
          · have g1 : vs 1 = _ := hG 1 (by kernel_rfl)
            have g2 : vs 2 = _ := hG 2 (by kernel_rfl)
            exact stepTo_value (w' := W) (by unfold execOp; simp only [s1, g1, s2, g2]; go_simp) ⟨Below.refl _ _, rfl⟩
          · have g3 : vs 3 = _ := hG 3 (by kernel_rfl)
            exact stepTo_value (w' := W) (by unfold execOp; simp only [s3, g3]; go_simp) ⟨Below.refl _ _, rfl⟩
          · have g4 : vs 4 = _ := hG 4 (by kernel_rfl)
            exact stepTo_value (w' := W) (by unfold execOp; simp only [s4, g4, hc]; go_simp; exact HTM.out) ⟨Below.refl _ _, rfl⟩
          · have g5 : vs 5 = _ := hG 5 (by kernel_rfl)
            exact stepTo_value (w' := W) (by unfold execOp; simp only [s5, g5]; go_simp; exact HWR.out) ⟨Below.refl _ _, rfl⟩
          · refine stepTo_enter (f := 16) (args := #[.int .u8 97]) (w' := W) (by unfold execOp; simp only [hc, hfn]; go_simp) ((data_any 97 W).mono ?_)
            rintro x W' ⟨rfl, hb'⟩
            exact ⟨_, rfl, hb', by rw [H97.out]; rfl⟩
        · intro vs W hb hG
          have g0 : vs 0 = _ := hG 0 (by decide)
          have g6 : vs 6 = _ := hG 6 (by decide)
          have g7 : vs 7 = _ := hG 7 (by decide)
          simp only [putList, putSel, if_true]
          rw [g0, g6, g7]
          generalize vs 1 = x1
          generalize vs 2 = x2
          generalize vs 3 = x3
          generalize vs 4 = x4
          generalize vs 5 = x5
          clear hG g0 g6 g7
          refine wpAny_one (i := 8) (by kernel_rfl) rfl rfl ?_
          go_simp
          refine (rwrite_two (I5.out.below hb) (Nat.le_trans B5.out.size hb.size) (by omega) (by decide) (at_ : Int) S97 _ L97.out _ rfl HD2.out).mono ?_
          rintro e W7 ⟨rfl, i7, b7⟩
          have I7 := Lib.hid i7
          have B7 := Lib.hid ((B5.out.trans (hb.mono B5.out.size)).trans b7)
          clear i7 b7 hb hcell5 hbw5 I5 B5
          dsimp only
          generalize (d.write (at_ : Int) (dat 97)).1 = v7 at *
          refine ⟨by kernel_rfl, ?_⟩
          go_wp2_with fail
          go_roundw
          case rel => exact ⟨k + 1, d2, by omega, by omega, by go_num, I7.out, hm6, B7.out⟩
          case measure => simp [intOf]; omega
    · have hx : ¬ k < us.length ∨ (k < us.length ∧ ¬ k < 60) := by omega
      have hzc := hl.2
      have hzt : ∀ n, IntsAt w A (zs.take n) := fun n i hi => by
        have hi' : i < zs.length := by simp at hi; omega
        obtain ⟨b, o, h1, h2, h3, h4, h5⟩ := HT.out i hi'
        simp only [List.getElem_take]
        exact ⟨b, o, h1, h2, h3, h4, h5⟩
      have HZT : Hid (∀ n, IntsAt wr A (zs.take n)) := fun n i hi => by
        obtain ⟨b, o, h1, h2, h3, h4, h5⟩ := hzt n i hi
        exact ⟨b, o, h1, Nat.lt_of_lt_of_le h2 B1.out.size, by rw [B1.out.cell (p := ⟨b, o + i, none⟩) h2]; exact h3, h4, h5⟩
      clear hgo hzt
      by_cases hz : zs.length ≤ 100
      · have hz' : (zs.length : Int) ≤ 100 := by omega
        obtain ⟨ys, hys⟩ : ∃ y, y = zs.take zs.length := ⟨_, rfl⟩
        have HZY : Hid (IntsAt wr A ys) := by rw [hys]; exact HZT.out _
        have HYL : Hid (ys.length = zs.length) := by unfold Hid; rw [hys, List.length_take]; omega
        clear hys HZT
        obtain ⟨b, hfb⟩ : ∃ b, d.fits ys = b := ⟨_, rfl⟩
        have HFB := Lib.hid hfb
        clear hfb
        rcases hx with hx | ⟨hx, hx2⟩
        all_goals
          go_wp2_with fail
          refine (fits_two H1.out A zs.length c ys HZY.out (by rw [HYL.out]; omega) HYL.out b HFB.out).mono ?_
          rintro e W5 ⟨rfl, i5, b5⟩
          have I5 := Lib.hid i5
          have B5 := Lib.hid (below_step B1.out b5)
          have HZ5 : Hid (IntsAt W5 A ys) := fun i hi => by
            obtain ⟨bq, oq, h1, h2, h3, h4, h5⟩ := HZY.out i hi
            exact ⟨bq, oq, h1, Nat.lt_of_lt_of_le h2 b5.size, by rw [b5.cell (p := ⟨bq, oq + i, none⟩) h2]; exact h3, h4, h5⟩
          clear i5 b5 H1 B1 HZY
          go_wp2_with fail
          refine (rfits_two I5.out A zs.length c ys HZ5.out (by rw [HYL.out]; omega) HYL.out b HFB.out).mono ?_
          rintro e W6 ⟨rfl, i6, b6⟩
          have B6 := Lib.hid (below_step B5.out b6)
          clear i6 b6 I5 B5 HZ5
          go_wp2_with fail
          refine (works_any _).mono ?_
          rintro e W7 ⟨rfl, b7⟩
          have B7 := Lib.hid (below_step B6.out b7)
          clear b7 B6
          go_wp2_with fail
          go_ret
          exact ⟨rfl, B7.out⟩
      · have hz' : ¬ (zs.length : Int) ≤ 100 := by omega
        have hcc : (100 : Int) ≤ (c : Int) := by omega
        have hcc2 : 100 ≤ c := by omega
        obtain ⟨ys, hys⟩ : ∃ y, y = zs.take 100 := ⟨_, rfl⟩
        have HZY : Hid (IntsAt wr A ys) := by rw [hys]; exact HZT.out _
        have HYL : Hid (ys.length = 100) := by unfold Hid; rw [hys, List.length_take]; omega
        clear hys HZT
        obtain ⟨b, hfb⟩ : ∃ b, d.fits ys = b := ⟨_, rfl⟩
        have HFB := Lib.hid hfb
        clear hfb
        rcases hx with hx | ⟨hx, hx2⟩
        all_goals
          go_wp2_with fail
          refine (fits_two H1.out A 100 c ys HZY.out (by rw [HYL.out]; omega) HYL.out b HFB.out).mono ?_
          rintro e W5 ⟨rfl, i5, b5⟩
          have I5 := Lib.hid i5
          have B5 := Lib.hid (below_step B1.out b5)
          have HZ5 : Hid (IntsAt W5 A ys) := fun i hi => by
            obtain ⟨bq, oq, h1, h2, h3, h4, h5⟩ := HZY.out i hi
            exact ⟨bq, oq, h1, Nat.lt_of_lt_of_le h2 b5.size, by rw [b5.cell (p := ⟨bq, oq + i, none⟩) h2]; exact h3, h4, h5⟩
          clear i5 b5 H1 B1 HZY
          go_wp2_with fail
          refine (rfits_two I5.out A 100 c ys HZ5.out (by rw [HYL.out]; omega) HYL.out b HFB.out).mono ?_
          rintro e W6 ⟨rfl, i6, b6⟩
          have B6 := Lib.hid (below_step B5.out b6)
          clear i6 b6 I5 B5 HZ5
          go_wp2_with fail
          refine (works_any _).mono ?_
          rintro e W7 ⟨rfl, b7⟩
          have B7 := Lib.hid (below_step B6.out b7)
          clear b7 B6
          go_wp2_with fail
          go_ret
          exact ⟨rfl, B7.out⟩
end Go.Proofs.Ytmacnghnjnkopaa.dk
