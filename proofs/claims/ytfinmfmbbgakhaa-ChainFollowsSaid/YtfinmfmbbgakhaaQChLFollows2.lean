/- ChainFollows: who gets each snapshot's Changes, one by one, has the same snapshots, of all writes. -/
import Derived.Test.YtfinmfmbbgakhaaQ12
import Derived.Test.YtfinmfmbbgakhaaQ13
import Derived.Test.YtfinmfmbbgakhaaQChLFollows0
import Derived.Test.YtfinmfmbbgakhaaQChLFollows1
import Derived.Test.YtfinmfmbbgakhaaRows
import Derived.Deep.DeepHandedRow
import Derived.ProofKit
import Derived.OpenShut
import Derived.ShutString
import Derived.SizedLaws
import Derived.ChangeOld
import Derived.Below
import Derived.SliceStrings
/- The walk of ChainFollows. -/
namespace Go.Proofs.Ytfinmfmbbgakhaa.ch
open Go Go.RowKit Go.Sort Go.Proofs.Ytfinmfmbbgakhaa.ib
set_option maxRecDepth 100000

def F1Rel (Is : IsT) (zss : List (List (Int × UInt8))) (p q M m : Nat) (w : World) (v i : Value) (wr : World) : Prop :=
  ∃ (k : Nat) (vs : List Value) (X : Nat → Prop), k ≤ M ∧ i = .int .i64 (k : Int) ∧ Pr Is wr m p q (aS gd1 zss k) (chNew 8) X ∧ OW wr m v vs ∧ vs.length = k ∧ Vols wr zss v vs X ∧ (∀ j, v.ownBlock = some j → X j) ∧ Below m w wr
def F2Rel (Is : IsT) (zss : List (List (Int × UInt8))) (p q M m : Nat) (A : Option Addr) (X : Nat → Prop) (w : World) (i : Value) (wr : World) : Prop :=
  ∃ k : Nat, k ≤ M ∧ i = .int .i64 (k : Int) ∧ Pr Is wr m p q (aS gd1 zss M) (aS gd1 zss k) X ∧ WasAt wr A zss M X ∧ Below m w wr

def F4Rel (Is : IsT) (zss : List (List (Int × UInt8))) (p q M m : Nat) (A : Option Addr) (X : Nat → Prop) (w : World) (i : Value) (wr : World) : Prop :=
  ∃ k : Nat, k ≤ M ∧ i = .int .i64 (k : Int) ∧ Pr Is wr m p q (aS gd1 zss M) (aS gd1 zss M) X ∧ WasAt wr A zss M X ∧ Below m w wr

set_option maxHeartbeats 25600000 in
theorem chainFollows_walk {Is : IsT} (H : Impl Is) (A : Option Addr) (c : Nat) (zss : List (List (Int × UInt8))) (w : World) (hl : zss.length ≤ 9223372036854775807) (hT : PssL w A zss) :
    Calls Try.prog 4 #[.slice A zss.length c] w (okTrue w) := by
  obtain ⟨i0, hi, hz0, hz1, hz2⟩ := info_parts infoTx
  have HT := Lib.hid hT
  clear hT
  obtain ⟨M, hM⟩ : ∃ M : Nat, M = min zss.length 15 := ⟨_, rfl⟩
  have hMi : (if (15 : Int) < (zss.length : Int) then (15 : Int) else (zss.length : Int)) = (M : Int) := by split <;> omega
  have hM15 : M ≤ 15 := by omega
  have hMl : M ≤ zss.length := by omega
  clear hM
  go_enter Try.func4, Try.ntmps4
  go_wp2_with fail
  refine (works_any H w).mono ?_
  rintro e W0 ⟨rfl, b0⟩
  have B0 := Lib.hid b0
  clear b0
  go_wp2_with fail
  refine (H.new_some 8 W0 (by decide) (by decide)).mono ?_
  rintro e W1 ⟨p, own, rfl, hi1, hb, ho⟩
  have H2 := Lib.hid (two_new H (w := w) W1 (below_step B0.out hb) hi1 (fun j hj => Nat.le_trans B0.out.size (ho j hj)))
  clear hi1 hb ho B0
  go_wp2_with fail
  refine H2.out.mono ?_
  rintro e W2 ⟨q, rfl, hp, hb⟩
  have HP := Lib.hid hp
  have B2 := Lib.hid hb
  clear hp hb H2
  go_wp2_with fail
  go_loopw [6, 7] (fun v i wr => F1Rel Is zss p q M w.heap.size w v i wr) (fun _ i _ => M - (intOf i).toNat)
  case atStart => exact ⟨0, [], fun _ => False, Nat.zero_le _, rfl, HP.out, World.ownsRow_nil _ _ _ _, rfl, fun j h => absurd h (by simp), fun j h => by simp [Value.ownBlock] at h, B2.out⟩
  case round =>
    clear HP B2
    obtain ⟨k, vs, X, hk, rfl, hp, how, hvl, hvols, hvx, hb⟩ := hrel
    have HP := Lib.hid hp
    have HB := Lib.hid hb
    have HOW := Lib.hid how
    have HVL := Lib.hid hvl
    have HVO := Lib.hid hvols
    have HVX := Lib.hid hvx
    have HMW : Hid (w.heap.size ≤ wr.heap.size) := hb.size
    have HXW : Hid (∀ j, X j → j < wr.heap.size) := Pr.x_lt hp
    obtain ⟨A6, c6, hv6, hwas⟩ := was_of how hvols hvx
    subst hv6
    have HWAS := Lib.hid hwas
    clear hp how hvl hvols hvx hb hwas
    by_cases hlt : k < M
    · have hkM : (k : Int) < (M : Int) := by omega
      have hkl : (k : Int) < (zss.length : Int) := by omega
      have hkz : k < zss.length := by omega
      obtain ⟨b, o, A1, c1, rfl, hbl, hc, hz, hzl⟩ := HT.out k hkz
      have ec : wr.cell? ⟨b, o + k, none⟩ = some (.slice A1 zss[k].length c1) := by rw [HB.out.cell (p := ⟨b, o + k, none⟩) hbl]; exact hc
      have lc : b < wr.heap.size := Nat.lt_of_lt_of_le hbl HB.out.size
      have hgd : zss.getD k [] = zss[k] := by simp [List.getD, hkz]
      have HGD := Lib.hid hgd
      have HZ := Lib.hid (hz.below HB.out)
      have HAZ : Hid (0 < zss[k].length → ∀ b o, A1 = some ⟨b, o, none⟩ → b < w.heap.size) := fun h0 b o e => by
        obtain ⟨b', o', e', h', _⟩ := hz 0 h0
        rw [e] at e'
        cases e'
        exact h'
      clear hgd hz hc hbl
      have hs1 : (roundP (aS gd1 zss k) zss[k]).snap (1, k + 1) = (aS gd1 zss (k + 1), 0) := by rw [← HGD.out]; exact aS_step gd1_rises k (by omega)
      have HS1 := Lib.hid hs1
      have hgb : gdB (1, k + 1) := ⟨by show 1 < _; omega, by show k + 1 < _; omega⟩
      have HGB := Lib.hid hgb
      clear hs1 hgb
      go_wp2_with fail
      refine (pl_round H HP.out HMW.out A1 c1 zss[k] HZ.out HAZ.out hzl).mono ?_
      rintro e V1 ⟨rfl, hp, hk1⟩
      have HP1 := Lib.hid hp
      have HK1 := Lib.hid hk1
      have HM1 : Hid (w.heap.size ≤ V1.heap.size) := Nat.le_trans HMW.out hk1.size
      clear hp hk1 HP ec lc
      go_wp2_with fail
      refine (guid_any 1 (k + 1) V1).mono ?_
      rintro e V2 ⟨rfl, b2⟩
      have HP2 := Lib.hid (Pr.below H HP1.out b2)
      have HK2 := Lib.hid (Kp.trans HK1.out (Kp.of_below b2))
      have HM2 : Hid (w.heap.size ≤ V2.heap.size) := Nat.le_trans HM1.out b2.size
      clear b2 HP1 HK1 HM1
      go_wp2_with fail
      refine (pl_snap H HP2.out HM2.out (1, k + 1) HGB.out HS1.out).mono ?_
      rintro e V3 ⟨rfl, hp, hk3⟩
      dsimp only at hp
      have HP3 := Lib.hid hp
      have HK3 := Lib.hid (Kp.trans HK2.out hk3)
      have HM3 : Hid (w.heap.size ≤ V3.heap.size) := Nat.le_trans HM2.out hk3.size
      clear hp hk3 HP2 HK2 HM2
      dsimp only
      go_wp2_with fail
      refine (pl_live H HP3.out).mono ?_
      rintro e V4 ⟨A4, c4, rfl, hx, hnw, b4⟩
      have HX4 := Lib.hid hx
      have HNW4 := Lib.hid hnw
      have HXL : Hid (∀ j, X j → j < V3.heap.size) := Pr.x_lt HP3.out
      have HP4 := Lib.hid (Pr.more H HP3.out b4 (Y := fun j => X j ∨ ∃ o, A4 = some ⟨j, o, none⟩) (fun j hj => by
        rcases hj with h | ⟨o, h⟩
        · exact .inl h
        · exact .inr (hnw j o h)))
      have HK4 := Lib.hid (Kp.trans HK3.out (Kp.of_below b4))
      have HM4 : Hid (w.heap.size ≤ V4.heap.size) := Nat.le_trans HM3.out b4.size
      have HS34 : Hid (V3.heap.size ≤ V4.heap.size) := b4.size
      clear b4 HP3 HK3 HM3 hx hnw
      rw [aS_live_len]
      obtain ⟨v, hv⟩ : ∃ x, Value.slice A6 vs.length c6 = x := ⟨_, rfl⟩
      rw [hv] at HOW HVO HVX
      have HOW4 := Lib.hid (ow_kept HOW.out (fun j hj => Kp.block HK4.out (HXW.out j (HVX.out j hj)) (.inl (HVX.out j hj))))
      have HVO4 := Lib.hid (Vols.kept HVO.out HK4.out.size (fun j hj _ => Kp.block HK4.out (HXW.out j hj) (.inl hj)))
      have b5 := (Below.refl V4.heap.size V4).alloc (Nat.le_refl _) (.cells #[.slice A4 8 c4] 48)
      have HO5 : Hid ((V4.alloc (.cells #[.slice A4 8 c4] 48)).ownsRow w.heap.size 48 1 v vs.length vs) := World.ownsRow.alloc HOW4.out _
      have HNW5 : Hid (∀ (j : Nat) (u : Value), ([.slice A4 8 c4] : List Value)[j]? = some u → (V4.alloc (.cells #[.slice A4 8 c4] 48)).cell? ((⟨V4.heap.size, 0, none⟩ : Addr).add j) = some u) := by
        intro j u hj
        match j, hj with
        | 0, hj =>
          simp at hj
          subst hj
          rw [addr_add]
          exact (Blk.new V4 48 #[.slice A4 8 c4]).cell 0
      have HONE : Hid (∀ u ∈ ([.slice A4 8 c4] : List Value), u.oneCell' = true) := by
        intro u hu
        simp at hu
        subst hu
        rfl
      have HVL15 : vs.length ≤ 15 := by rw [HVL.out]; omega
      have HB5s : Hid (w.heap.size ≤ (V4.alloc (.cells #[.slice A4 8 c4] 48)).heap.size) := Nat.le_trans HM4.out b5.size
      have HBB5 := Lib.hid b5
      clear b5
      go_wp2_with (at_builtin; refine wpList_append_at rfl (.tmp 44) (.tmp 47) 44 rfl w.heap.size 48 i0 (.slice none 0 0) 1 24 Try.underlying44 hi hz0 hz1 hz2 rfl (by decide) _ vs.length _ rfl HO5.out ⟨V4.heap.size, 0, none⟩ 1 1 [.slice A4 8 c4] rfl rfl HNW5.out HONE.out ?_ ?_ HB5s.out ?_)
      · unfold maxLen; omega
      · omega
      · intro v' V6 hown hgrow hloc
        have hb6 : But (fun j => v.ownBlock = some j) (V4.alloc (.cells #[.slice A4 8 c4] 48)) V6 := ⟨hgrow.os, hgrow.tape, hgrow.output, hgrow.size, fun j hj hn => hgrow.block j hj (fun e => hn e.symm)⟩
        have how6 : OW V6 w.heap.size v' (vs ++ [.slice A4 8 c4]) := by
          unfold OW
          rw [List.length_append]
          exact hown
        have hs5 : (V4.alloc (.cells #[.slice A4 8 c4] 48)).heap.size = V4.heap.size + 1 := by simp
        have HP5 := Pr.below H HP4.out HBB5.out
        have HP6 := Lib.hid (Pr.step2 H HP5 hb6 (Y := fun j => (X j ∨ ∃ o, A4 = some ⟨j, o, none⟩) ∨ v'.ownBlock = some j) (fun j hj => .inl (.inl (HVX.out j hj))) (fun j hj => by
          rcases hj with h | h
          · exact .inl h
          · rcases hloc with e | e
            · exact .inl (.inl (HVX.out j (e ▸ h)))
            · have h2 := (how6.lt j h).2
              rw [e] at h
              injection h with h
              exact .inr ⟨by omega, h2⟩))
        have HVO6 : Hid (Vols V6 zss v' (vs ++ [.slice A4 8 c4]) (fun j => (X j ∨ ∃ o, A4 = some ⟨j, o, none⟩) ∨ v'.ownBlock = some j)) := by
          intro j hj
          have hne : ∀ b, (X b ∨ ∃ o, A4 = some ⟨b, o, none⟩) → v.ownBlock ≠ some b → v'.ownBlock ≠ some b := fun b hx hn h => by
            rcases hloc with e | e
            · exact hn (e ▸ h)
            · rw [e] at h
              injection h with h
              rcases hx with hx | ⟨o, hx⟩
              · have := HXL.out b hx; have := HS34.out; omega
              · have := (HNW4.out b o hx).2; omega
          by_cases hjk : j < vs.length
          · obtain ⟨A', c', h1, h2, h3⟩ := HVO4.out j hjk
            refine ⟨A', c', by rw [List.getElem_append_left hjk]; exact h1, (h2.below HBB5.out).kept hb6.size (fun b o e => hb6.block b ?_ (h3 b o e).2), fun b o e => ⟨.inl (.inl (h3 b o e).1), hne b (.inl (h3 b o e).1) (h3 b o e).2⟩⟩
            have := HXL.out b (h3 b o e).1
            have := HS34.out
            omega
          · have hje : j = vs.length := by simp at hj; omega
            subst hje
            have hnv : ∀ b o, A4 = some ⟨b, o, none⟩ → v.ownBlock ≠ some b := fun b o e h => by
              have h1 := HXL.out b (HVX.out b h)
              have h2 := (HNW4.out b o e).1
              omega
            refine ⟨A4, c4, by rw [List.getElem_append_right (Nat.le_refl _)]; simp, ?_, fun b o e => ⟨.inl (.inr ⟨o, e⟩), hne b (.inr ⟨o, e⟩) (hnv b o e)⟩⟩
            have hx := HX4.out
            rw [aS_live] at hx
            rw [HVL.out]
            refine (hx.below HBB5.out).kept hb6.size (fun b o e => hb6.block b ?_ (hnv b o e))
            have := (HNW4.out b o e).2
            omega
        have HB6 := Lib.hid (((HB.out.trans (Kp.below HK4.out HMW.out)).trans (HBB5.out.mono HM4.out)).trans (hb6.below (fun j hj => (HOW.out.lt j hj).1) HB5s.out))
        have HOW6 := Lib.hid how6
        obtain ⟨A8, c8, hv8, _⟩ := was_of how6 HVO6.out (fun j hj => .inr hj)
        subst hv8
        clear hown hgrow hloc hb6 how6 hs5 HP5 HBB5 HO5 HNW5 HONE HB5s HOW4 HVO4 hv
        go_wp2_with fail
        go_roundw
        case rel => exact ⟨k + 1, _, _, by omega, by go_num, HP6.out, HOW6.out, by rw [List.length_append, HVL.out]; rfl, HVO6.out, fun j hj => .inr hj, HB6.out⟩
        case measure => simp [intOf]; omega
    · have hkM : ¬ (k : Int) < (M : Int) := by omega
      have hkMe : vs.length = M := by rw [HVL.out]; omega
      have hp := HP.out
      rw [show k = M by omega] at hp
      have HPM := Lib.hid hp
      rw [hkMe] at HWAS ⊢
      clear hp HP HOW HVO HVX HVL hkMe hlt hk
      go_wp2_with fail
      obtain ⟨wa, hwa⟩ : ∃ x, x = wr := ⟨_, rfl⟩
      subst hwa
      go_loopw [8] (fun i wr => F2Rel Is zss p q M w.heap.size A6 X w i wr) (fun i _ => M - (intOf i).toNat)
      case atStart => exact ⟨0, Nat.zero_le _, rfl, HPM.out, HWAS.out, HB.out⟩
      case round =>
        clear HPM HWAS HB HMW HXW
        obtain ⟨r, hr, rfl, hp, hws, hb⟩ := hrel
        have HP := Lib.hid hp
        have HW := Lib.hid hws
        have HB := Lib.hid hb
        have HMW : Hid (w.heap.size ≤ wr.heap.size) := hb.size
        clear hp hws hb
        by_cases hrM : r < M
        · have hrMi : (r : Int) < (M : Int) := by omega
          have hch := aS_changes (gd := gd1) (zss := zss) M r hrM
          have hadd := aS_add gd1_rises (zss := zss) r (by omega)
          have hdl : (diffs (lv zss r) (lv zss (r + 1))).length ≤ 8 := by have := diffs_len (lv zss r) (lv zss (r + 1)); rw [(lv_ok zss (r + 1)).1] at this; exact this
          generalize diffs (lv zss r) (lv zss (r + 1)) = D at *
          have HCH := Lib.hid hch
          have HAD := Lib.hid hadd
          have HRB : Hid (b64 (r : Int)) := by unfold Hid b64; omega
          have HGB : Hid (gdB (1, r + 1)) := ⟨by show 1 < _; omega, by show r + 1 < _; omega⟩
          clear hch hadd
          go_wp2_with fail
          refine (pl_changes H HP.out (r : Int) HRB.out HCH.out).mono ?_
          rintro e U1 ⟨A7, c7, rfl, hx, hnw, b1⟩
          dsimp only at hx hnw
          have HX := Lib.hid hx
          have HP1 := Lib.hid (Pr.more H HP.out b1 (Y := fun j => X j ∨ ∃ o, A7 = some ⟨j, o, none⟩) (fun j hj => by
            rcases hj with h | ⟨o, h⟩
            · exact .inl h
            · exact .inr (hnw j o h)))
          have HW1 := Lib.hid (HW.out.below b1)
          have HB1 := Lib.hid (HB.out.trans (b1.mono HMW.out))
          have HM1 : Hid (w.heap.size ≤ U1.heap.size) := Nat.le_trans HMW.out b1.size
          clear hx hnw b1 HP HW HB HMW
          dsimp only
          go_wp2_with fail
          refine (guid_any 1 (r + 1) U1).mono ?_
          rintro e U2 ⟨rfl, b2⟩
          have HP2 := Lib.hid (Pr.below H HP1.out b2)
          have HW2 := Lib.hid (HW1.out.below b2)
          have HX2 := Lib.hid (HX.out.below b2)
          have HB2 := Lib.hid (HB1.out.trans (b2.mono HM1.out))
          have HM2 : Hid (w.heap.size ≤ U2.heap.size) := Nat.le_trans HM1.out b2.size
          clear b2 HP1 HW1 HB1 HM1 HX
          go_wp2_with fail
          refine (pr_add H HP2.out HM2.out (1, r + 1) HGB.out A7 c7 D HX2.out (by omega) (fun b o e => .inr ⟨o, e⟩) HAD.out).mono ?_
          rintro e U3 ⟨rfl, hp, hk3⟩
          dsimp only at hp
          have HP3 := Lib.hid (Pr.less hp (Y := X) (fun j hj => .inl hj))
          have HW3 := Lib.hid (HW2.out.kp hk3 (fun j hj => .inl hj))
          have HB3 := Lib.hid (HB2.out.trans (hk3.below HM2.out))
          have HM3 : Hid (w.heap.size ≤ U3.heap.size) := Nat.le_trans HM2.out hk3.size
          clear hp hk3 HP2 HW2 HB2 HM2 HX2
          dsimp only
          go_wp2_with fail
          refine (pr_live H HP3.out).mono ?_
          rintro e U4 ⟨A11, c11, rfl, hx, -, b4⟩
          rw [aS_live] at hx
          have HL6 := Lib.hid hx
          have HP6 := Lib.hid (Pr.below H HP3.out b4)
          have HW6 := Lib.hid (HW3.out.below b4)
          have HB6 := Lib.hid (HB3.out.trans (b4.mono HM3.out))
          have HM6 : Hid (w.heap.size ≤ U4.heap.size) := Nat.le_trans HM3.out b4.size
          clear hx b4 HP3 HW3 HB3 HM3
          rw [aS_live_len]
          go_wp2_with fail
          go_loopw [12] (fun i wr => CmpRel 8 U4 i wr) (fun i _ => 8 - (intOf i).toNat)
          case atStart => exact ⟨0, Nat.zero_le _, rfl, Below.refl _ _⟩
          case round =>
            obtain ⟨j, hj, rfl, hb⟩ := hrel
            have HBJ := Lib.hid hb
            clear hb
            by_cases hj8 : j < 8
            · have hj8i : (j : Int) < 8 := by omega
              have hjv : j < (lv zss (r + 1)).length := by rw [(lv_ok zss (r + 1)).1]; exact hj8
              obtain ⟨bw, ow, Aw, cw, rfl, hbw, _, hcw, htw, _⟩ := HW6.out r hrM
              obtain ⟨bv, ov, rfl, hbv, hcv⟩ := htw j hjv
              obtain ⟨b1, o1, rfl, hb1, hc1⟩ := HL6.out j hjv
              have x1 : wr.cell? ⟨b1, o1 + j, none⟩ = some (.string (str (lv zss (r + 1))[j])) := by rw [HBJ.out.cell (p := ⟨b1, o1 + j, none⟩) hb1]; exact hc1
              have lx1 : b1 < wr.heap.size := Nat.lt_of_lt_of_le hb1 HBJ.out.size
              clear hc1 hb1
              have w0 : wr.cell? ⟨bw, ow + r, none⟩ = some (.slice (some ⟨bv, ov, none⟩) 8 cw) := by rw [HBJ.out.cell (p := ⟨bw, ow + r, none⟩) hbw]; exact hcw
              have w1 : wr.cell? ⟨bv, ov + j, none⟩ = some (.string (str (lv zss (r + 1))[j])) := by rw [HBJ.out.cell (p := ⟨bv, ov + j, none⟩) hbv]; exact hcv
              have lw0 : bw < wr.heap.size := Nat.lt_of_lt_of_le hbw HBJ.out.size
              have lw1 : bv < wr.heap.size := Nat.lt_of_lt_of_le hbv HBJ.out.size
              clear hcw hcv htw hbw hbv
              generalize str (lv zss (r + 1))[j] = S at *
              have hq : (S.toList != S.toList) = false := by simp
              go_wp2_with fail
              go_quiet (fail)
              go_wp2_with fail
              refine ⟨⟨j + 1, by omega, by go_num, ⟨HBJ.out.os, HBJ.out.tape, HBJ.out.output, HBJ.out.size, HBJ.out.block⟩⟩, ?_⟩
              simp [intOf]
              omega
            · have hj8i : ¬ (j : Int) < 8 := by omega
              have HP7 := Lib.hid (Pr.below H HP6.out HBJ.out)
              have HW7 := Lib.hid (HW6.out.below HBJ.out)
              have HB7 := Lib.hid (HB6.out.trans (HBJ.out.mono HM6.out))
              clear HP6 HW6 HB6 HM6 HL6 hj hj8
              go_wp2_with fail
              go_roundw
              case rel => exact ⟨r + 1, by omega, by go_num, HP7.out, HW7.out, HB7.out⟩
              case measure => simp [intOf]; omega
        · have hrMi : ¬ (r : Int) < (M : Int) := by omega
          have hp := HP.out
          rw [show r = M by omega] at hp
          have HPM := Lib.hid hp
          clear hp HP hr hrM
          go_wp2_with fail
          obtain ⟨wb, hwb⟩ : ∃ x, x = wr := ⟨_, rfl⟩
          subst hwb
          go_loopw [13] (fun i wr => F4Rel Is zss p q M w.heap.size A6 X w i wr) (fun i _ => M - (intOf i).toNat)
          case atStart => exact ⟨0, Nat.zero_le _, rfl, HPM.out, HW.out, HB.out⟩
          case round =>
            clear HPM HW HB HMW hrMi
            obtain ⟨r, hr, rfl, hp, hws, hb⟩ := hrel
            have HP := Lib.hid hp
            have HW := Lib.hid hws
            have HB := Lib.hid hb
            have HMW : Hid (w.heap.size ≤ wr.heap.size) := hb.size
            clear hp hws hb
            by_cases hrM : r < M
            · have hrMi : (r : Int) < (M : Int) := by omega
              have HRD := Lib.hid (aS_read gd1_rises (zss := zss) M r hrM)
              have HGB : Hid (gdB (1, r + 1)) := ⟨by show 1 < _; omega, by show r + 1 < _; omega⟩
              go_wp2_with fail
              refine (guid_any 1 (r + 1) wr).mono ?_
              rintro e U1 ⟨rfl, b1⟩
              have HP1 := Lib.hid (Pr.below H HP.out b1)
              have HW1 := Lib.hid (HW.out.below b1)
              have HB1 := Lib.hid (HB.out.trans (b1.mono HMW.out))
              have HM1 : Hid (w.heap.size ≤ U1.heap.size) := Nat.le_trans HMW.out b1.size
              clear b1 HP HW HB HMW
              go_wp2_with fail
              refine (pl_read H HP1.out (1, r + 1) HGB.out HRD.out).mono ?_
              rintro e U2 ⟨A14, c14, rfl, hx, -, b2⟩
              dsimp only at hx
              have HX2 := Lib.hid hx
              have HP2 := Lib.hid (Pr.below H HP1.out b2)
              have HW2 := Lib.hid (HW1.out.below b2)
              have HB2 := Lib.hid (HB1.out.trans (b2.mono HM1.out))
              have HM2 : Hid (w.heap.size ≤ U2.heap.size) := Nat.le_trans HM1.out b2.size
              clear hx b2 HP1 HW1 HB1 HM1
              dsimp only
              rw [(lv_ok zss (r + 1)).1]
              go_wp2_with fail
              refine (guid_any 1 (r + 1) U2).mono ?_
              rintro e U3 ⟨rfl, b3⟩
              have HX3 := Lib.hid (HX2.out.below b3)
              have HP3 := Lib.hid (Pr.below H HP2.out b3)
              have HW3 := Lib.hid (HW2.out.below b3)
              have HB3 := Lib.hid (HB2.out.trans (b3.mono HM2.out))
              have HM3 : Hid (w.heap.size ≤ U3.heap.size) := Nat.le_trans HM2.out b3.size
              clear b3 HP2 HW2 HB2 HM2 HX2
              go_wp2_with fail
              refine (pr_read H HP3.out (1, r + 1) HGB.out HRD.out).mono ?_
              rintro e U4 ⟨A16, c16, rfl, hy, -, b4⟩
              dsimp only at hy
              have HY4 := Lib.hid hy
              have HX4 := Lib.hid (HX3.out.below b4)
              have HP4 := Lib.hid (Pr.below H HP3.out b4)
              have HW4 := Lib.hid (HW3.out.below b4)
              have HB4 := Lib.hid (HB3.out.trans (b4.mono HM3.out))
              have HM4 : Hid (w.heap.size ≤ U4.heap.size) := Nat.le_trans HM3.out b4.size
              clear hy b4 HP3 HW3 HB3 HM3 HX3
              dsimp only
              rw [(lv_ok zss (r + 1)).1]
              go_wp2_with fail
              go_loopw [18] (fun i wr => CmpRel 8 U4 i wr) (fun i _ => 8 - (intOf i).toNat)
              case atStart => exact ⟨0, Nat.zero_le _, rfl, Below.refl _ _⟩
              case round =>
                obtain ⟨j, hj, rfl, hb⟩ := hrel
                have HBJ := Lib.hid hb
                clear hb
                by_cases hj8 : j < 8
                · have hj8i : (j : Int) < 8 := by omega
                  have hjv : j < (lv zss (r + 1)).length := by rw [(lv_ok zss (r + 1)).1]; exact hj8
                  obtain ⟨bw, ow, Aw, cw, rfl, hbw, _, hcw, htw, _⟩ := HW4.out r hrM
                  obtain ⟨bv, ov, rfl, hbv, hcv⟩ := htw j hjv
                  obtain ⟨b1, o1, rfl, hb1, hc1⟩ := HX4.out j hjv
                  have x1 : wr.cell? ⟨b1, o1 + j, none⟩ = some (.string (str (lv zss (r + 1))[j])) := by rw [HBJ.out.cell (p := ⟨b1, o1 + j, none⟩) hb1]; exact hc1
                  have lx1 : b1 < wr.heap.size := Nat.lt_of_lt_of_le hb1 HBJ.out.size
                  clear hc1 hb1
                  obtain ⟨b2, o2, rfl, hb2, hc2⟩ := HY4.out j hjv
                  have x2 : wr.cell? ⟨b2, o2 + j, none⟩ = some (.string (str (lv zss (r + 1))[j])) := by rw [HBJ.out.cell (p := ⟨b2, o2 + j, none⟩) hb2]; exact hc2
                  have lx2 : b2 < wr.heap.size := Nat.lt_of_lt_of_le hb2 HBJ.out.size
                  clear hc2 hb2
                  have w0 : wr.cell? ⟨bw, ow + r, none⟩ = some (.slice (some ⟨bv, ov, none⟩) 8 cw) := by rw [HBJ.out.cell (p := ⟨bw, ow + r, none⟩) hbw]; exact hcw
                  have w1 : wr.cell? ⟨bv, ov + j, none⟩ = some (.string (str (lv zss (r + 1))[j])) := by rw [HBJ.out.cell (p := ⟨bv, ov + j, none⟩) hbv]; exact hcv
                  have lw0 : bw < wr.heap.size := Nat.lt_of_lt_of_le hbw HBJ.out.size
                  have lw1 : bv < wr.heap.size := Nat.lt_of_lt_of_le hbv HBJ.out.size
                  clear hcw hcv htw hbw hbv
                  generalize str (lv zss (r + 1))[j] = S at *
                  have hq : (S.toList != S.toList) = false := by simp
                  go_wp2_with fail
                  go_quiet (fail)
                  go_wp2_with fail
                  refine ⟨⟨j + 1, by omega, by go_num, ⟨HBJ.out.os, HBJ.out.tape, HBJ.out.output, HBJ.out.size, HBJ.out.block⟩⟩, ?_⟩
                  simp [intOf]
                  omega
                · have hj8i : ¬ (j : Int) < 8 := by omega
                  have HP7 := Lib.hid (Pr.below H HP4.out HBJ.out)
                  have HW7 := Lib.hid (HW4.out.below HBJ.out)
                  have HB7 := Lib.hid (HB4.out.trans (HBJ.out.mono HM4.out))
                  clear HP4 HW4 HB4 HM4 HX4 HY4 hj hj8
                  go_wp2_with fail
                  go_roundw
                  case rel => exact ⟨r + 1, by omega, by go_num, HP7.out, HW7.out, HB7.out⟩
                  case measure => simp [intOf]; omega
            · have hrMi : ¬ (r : Int) < (M : Int) := by omega
              go_wp2_with fail
              go_ret
              exact ⟨rfl, HB.out⟩
end Go.Proofs.Ytfinmfmbbgakhaa.ch

/- ChainFollows: who gets each snapshot's Changes, one by one, has the same snapshots, of all writes. -/
namespace Go.Proofs.Ytfinmfmbbgakhaa.chainFollows
open Go.ChangeShapes Go.WideShapes Go.ChangeAt Go.RowKit
open Go.ChangeMaps (open_string shut_string)
open Go.Proofs.Ytfinmfmbbgakhaa.ib Go.Proofs.Ytfinmfmbbgakhaa.ch

theorem own : ownKnob Try.prog.godebug = none := by kernel_rfl
theorem laidOut : laidOutB Try.prog = true := by kernel_rfl

theorem witness (os : Os) {H : Type} (enc : TypeId × Value → H) :
    (OpenSpec.ofChange Rows.chainFollowsSpec).preRow enc Try.prog Try.f4 Rows.chainFollowsRow.domain false Rows.chainFollowsRow.laid ((World.holding Try.prog os ⟨#[], #[], []⟩).forCall (fun _ _ => 0) ⟨#[], #[.slice none 0 0], []⟩).memory #[.slice none 0 0] := by
  have hw : (DataW.whole enc Try.prog ((World.holding Try.prog os ⟨#[], #[], []⟩).forCall (fun _ _ => 0) ⟨#[], #[.slice none 0 0], []⟩).memory Try.f4.params.toList (OpenSpec.ofChange Rows.chainFollowsSpec).vars false (#[.slice none 0 0] : Array Value).toList 8).map (fun x => (x.1, x.2.1)) =
      some ([.nil], []) := by kernel_rfl
  obtain ⟨⟨x1, x2, x3⟩, hx, hx1⟩ := Option.map_eq_some_iff.1 hw
  simp only [Prod.mk.injEq] at hx1
  obtain ⟨rfl, rfl⟩ := hx1
  exact OpenSpec.preRow_of_cond 8 hx (by kernel_rfl) (fun k hk => by cases hk) (by kernel_rfl) (laidMetH_nil _ _)

set_option maxRecDepth 100000 in
set_option maxHeartbeats 1600000 in
theorem lifted (os : Os) (started : os.Started) (H : Type) (enc : TypeId × Value → H) (F : Stop.Interp) :
    ReturnsInHanded {} Try.checked os 4 .any ((OpenSpec.ofChange Rows.chainFollowsSpec).preRow enc Try.prog Try.f4 Rows.chainFollowsRow.domain false Rows.chainFollowsRow.laid) (((OpenSpec.ofChange Rows.chainFollowsSpec).at F).post enc Try.prog Try.f4 false true false false) := by
  refine returnsInHanded_of_row (C := Try.checked) (s := OpenSpec.ofChange Rows.chainFollowsSpec) own started (by kernel_rfl) Try.func4
    (witness_row_at (enc := enc) (C := Try.checked) false (World.holding Try.prog os ⟨#[], #[], []⟩) #[.slice none 0 0] rfl (by kernel_rfl) (by kernel_rfl) (by kernel_rfl) (witness os enc)) ?_
  intro W base args ds gs before hval0 hW _ _ hsz0 hL _ _
  have hval : ∀ (j : Nat) t v, Try.f4.params[j]? = some t → args[j]? = some v → Value.okWide Try.prog W .any base t v := hval0
  have hW' := hW
  obtain ⟨p, q, hA0, hV, rfl, hfz, hnd⟩ := hW
  have hA : DataW.TrodAll enc Try.prog W 0 (fun _ => true) true Try.f4.params.toList args.toList ds p := hA0
  rw [Try.params4] at hA hval
  obtain ⟨v0, vs0, d0, ds0, p0, q0, hargs, rfl, rfl, h0, r0⟩ := trodAll_cons hA
  obtain ⟨rfl, rfl, rfl⟩ := trodAll_nil r0
  obtain rfl : args = #[v0] := by cases args; simp_all
  obtain ⟨rfl, rfl⟩ := trodVars_none hV
  obtain ⟨a0, l0, c0, rfl⟩ := okWide_slice Try.underlying43 (hval 0 43 v0 rfl rfl)
  have k0 := h0
  have lt0 : ∀ x ∈ p0, x.block < W.heap.size := by obtain ⟨m, hm⟩ := k0; exact DataW.trod_lt m _ _ _ hm
  obtain ⟨zs0, hzl0, hl0, hT0⟩ := pss8_of k0
  subst hzl0
  clear hA0 hval0 hsz0
  simp only [List.append_nil] at hW'
  refine (chainFollows_walk hImpl a0 c0 zs0 W hl0 hT0).mono fun e W' ⟨he, hg⟩ => ?_
  subst he
  exact ⟨_, rfl, _, _, _, [], _, [], hW', trodAll_mk1 (shut_bool Try.underlying4 _), (trodAll_cons_mk (Below.trod laidOut (by kernel_rfl) (of_decide_eq_true (by kernel_rfl)) k0 hg lt0) trodAll_mk0), rfl, hg.frame _, fun h => by cases h⟩

theorem over : Rows.ChainFollowsSaid :=
  OpenClaim.holds_of_cond 4 Try.f4 rfl rfl rfl rfl rfl rfl rfl ⟨rfl, rfl, rfl, rfl, rfl⟩ rfl rfl rfl rfl rfl (by kernel_rfl) Try.func4 (by kernel_rfl)
    (of_decide_eq_true (by kernel_rfl)) (by unfold Func.isWrapper; first | (rw [if_pos (by decide +kernel)]; kernel_rfl) | (rw [if_neg (by decide +kernel)]; exact ⟨rfl, rfl⟩))
    (fun os started H enc _ F => by rw [OpenClaim.pre_eq_preRow]; exact lifted os started H enc F)

theorem proved : Rows.ChainFollowsSaid :=
  over
#print axioms proved
end Go.Proofs.Ytfinmfmbbgakhaa.chainFollows

