/- ChWBk. -/
import Derived.Test.YtfinmfmbbgakhaaQ13
import Derived.Test.YtfinmfmbbgakhaaQChLFollows0
/- The walk of ChainBack. -/
namespace Go.Proofs.Ytfinmfmbbgakhaa.ch
open Go Go.RowKit Go.Sort Go.Proofs.Ytfinmfmbbgakhaa.ib
set_option maxRecDepth 100000

def gd2 (i : Nat) : Gd := (2, i)
theorem gd2_rises : Rises gd2 := ⟨by decide, fun i => by unfold above gd2; simp, fun i j h => by unfold gd2 at h; exact (Prod.mk.inj h).2⟩
theorem PssL.below {w w' : World} {A : Option Addr} {zss : List (List (Int × UInt8))} (h : PssL w A zss) (hb : Below w.heap.size w w') : PssL w' A zss := by
  intro i hi
  obtain ⟨b, o, A1, c1, h1, h2, h3, h4, h5⟩ := h i hi
  exact ⟨b, o, A1, c1, h1, Nat.lt_of_lt_of_le h2 hb.size, by rw [hb.cell (p := ⟨b, o + i, none⟩) h2]; exact h3, h4.below hb, h5⟩

theorem aS_99 {zss : List (List (Int × UInt8))} (n : Nat) (h : n ≤ 15) : ∃ d, (aS gd2 zss n).snap (2, 99) = (d, 0) := by
  have ha : above (2, 99) (aS gd2 zss n).last = true := by
    cases n with
    | zero => rw [aS_zero]; decide
    | succ n =>
      rw [aS_last]
      unfold above gd2
      have : n < 99 := by omega
      simp [this]
  have hm : (aS gd2 zss n).may (2, 99) = 0 := by
    unfold CH.may
    rw [ha, if_pos rfl, if_neg (by rw [aS_len]; omega)]
  unfold CH.snap
  rw [if_pos hm]
  exact ⟨_, rfl⟩

def BcRel (Is : IsT) (zss : List (List (Int × UInt8))) (p q M stay m : Nat) (w : World) (i : Value) (wr : World) : Prop :=
  ∃ k : Nat, k ≤ M ∧ i = .int .i64 (k : Int) ∧ Pr Is wr m p q (aS gd2 zss k) (aS gd2 zss (min k stay)) (fun _ => False) ∧ Below m w wr
def CmpRel (n : Nat) (w : World) (i : Value) (wr : World) : Prop := ∃ k : Nat, k ≤ n ∧ i = .int .i64 (k : Int) ∧ Below w.heap.size w wr
def Bc3Rel (Is : IsT) (zss : List (List (Int × UInt8))) (p q stay m : Nat) (w : World) (i : Value) (wr : World) : Prop :=
  ∃ k : Nat, k ≤ stay ∧ i = .int .i64 (k : Int) ∧ Pr Is wr m p q (aS gd2 zss stay) (aS gd2 zss stay) (fun _ => False) ∧ Below m w wr

set_option maxHeartbeats 25600000 in
theorem chainBack_walk {Is : IsT} (H : Impl Is) (A : Option Addr) (c : Nat) (zss : List (List (Int × UInt8))) (n : Int) (hn : (Lit.int .u8 n).wf = true) (w : World) (hl : zss.length ≤ 9223372036854775807) (hT : PssL w A zss) :
    Calls Try.prog 5 #[.slice A zss.length c, .int .u8 n] w (okTrue w) := by
  obtain ⟨nn, rfl⟩ := u8_of hn
  have hnn := nn.toNat_lt
  have HT := Lib.hid hT
  clear hT hn
  obtain ⟨M, hM⟩ : ∃ M : Nat, M = min zss.length 15 := ⟨_, rfl⟩
  have hMi : (if (15 : Int) < (zss.length : Int) then (15 : Int) else (zss.length : Int)) = (M : Int) := by split <;> omega
  have hM15 : M ≤ 15 := by omega
  have hMl : M ≤ zss.length := by omega
  obtain ⟨stay, hst⟩ : ∃ s, s = nn.toNat % (M + 1) := ⟨_, rfl⟩
  have hstM : stay ≤ M := by have := Nat.mod_lt nn.toNat (show 0 < M + 1 by omega); omega
  have hsti : ((nn.toNat : Nat) : Int).tmod ((M : Int) + 1) = (stay : Int) := by
    rw [Int.tmod_eq_emod_of_nonneg (by omega), hst]
    push_cast
    rfl
  clear hM hst
  generalize nn.toNat = nz at *
  go_enter Try.func5, Try.ntmps5
  go_wp2_with fail
  refine (works_any H w).mono ?_
  rintro e W0 ⟨rfl, b0⟩
  have B0 := Lib.hid b0
  clear b0
  go_wp2_with fail
  refine (H.new_some 8 W0 (by decide) (by decide)).mono ?_
  rintro e W1 ⟨p, own, rfl, hi, hb, ho⟩
  have H2 := Lib.hid (two_new H (w := w) W1 (below_step B0.out hb) hi (fun j hj => Nat.le_trans B0.out.size (ho j hj)))
  clear hi hb ho B0
  go_wp2_with fail
  refine H2.out.mono ?_
  rintro e W2 ⟨q, rfl, hp, hb⟩
  have HP := Lib.hid hp
  have B2 := Lib.hid hb
  clear hp hb H2
  go_wp2_with fail
  go_loopw [9] (fun i wr => BcRel Is zss p q M stay w.heap.size w i wr) (fun i _ => M - (intOf i).toNat)
  case atStart => exact ⟨0, Nat.zero_le _, rfl, by rw [Nat.zero_min]; exact HP.out, B2.out⟩
  case round =>
    clear HP B2
    obtain ⟨k, hk, rfl, hp, hb⟩ := hrel
    have HP := Lib.hid hp
    have HB := Lib.hid hb
    have HB0 := Lib.hid hb
    clear hp hb
    by_cases hlt : k < M
    · have hkM : (k : Int) < (M : Int) := by omega
      have hkl : (k : Int) < (zss.length : Int) := by omega
      have hkz : k < zss.length := by omega
      obtain ⟨b, o, A1, c1, rfl, hbl, hc, hz, hzl⟩ := HT.out k hkz
      have ec : wr.cell? ⟨b, o + k, none⟩ = some (.slice A1 zss[k].length c1) := by rw [HB.out.cell (p := ⟨b, o + k, none⟩) hbl]; exact hc
      have lc : b < wr.heap.size := Nat.lt_of_lt_of_le hbl HB.out.size
      have hgd : zss.getD k [] = zss[k] := by simp [List.getD, hkz]
      have HGD := Lib.hid hgd
      have HZ := Lib.hid hz
      have HC := Lib.hid hc
      have HBL := Lib.hid hbl
      have HAZ : Hid (0 < zss[k].length → ∀ b o, A1 = some ⟨b, o, none⟩ → b < w.heap.size) := fun h0 b o e => by
        obtain ⟨b', o', e', h', _⟩ := hz 0 h0
        rw [e] at e'
        cases e'
        exact h'
      have HMW : Hid (w.heap.size ≤ wr.heap.size) := HB.out.size
      clear hgd hz hc hbl
      have hs1 : (roundP (aS gd2 zss k) zss[k]).snap (2, k) = (aS gd2 zss (k + 1), 0) := by rw [← HGD.out]; exact aS_step gd2_rises k (by omega)
      have HS1 := Lib.hid hs1
      have hgb : gdB (2, k) := ⟨by show 2 < _; omega, by show k < _; omega⟩
      have HGB := Lib.hid hgb
      clear hs1 hgb
      go_wp2_with fail
      refine (pl_round H HP.out HMW.out A1 c1 zss[k] (HZ.out.below HB0.out) HAZ.out hzl).mono ?_
      rintro e V1 ⟨rfl, hp, hk1⟩
      have HP1 := Lib.hid hp
      have HB1 := Lib.hid (HB.out.trans (hk1.below HMW.out))
      have HM1 : Hid (w.heap.size ≤ V1.heap.size) := Nat.le_trans HMW.out hk1.size
      clear hp hk1 HP HB HMW ec lc
      go_wp2_with fail
      refine (guid_any 2 k V1).mono ?_
      rintro e V2 ⟨rfl, b2⟩
      have HP2 := Lib.hid (Pr.below H HP1.out b2)
      have HB2 := Lib.hid (HB1.out.trans (b2.mono HM1.out))
      have HM2 : Hid (w.heap.size ≤ V2.heap.size) := Nat.le_trans HM1.out b2.size
      clear b2 HP1 HB1 HM1
      go_wp2_with fail
      refine (pl_snap H HP2.out HM2.out (2, k) HGB.out HS1.out).mono ?_
      rintro e V3 ⟨rfl, hp, hk3⟩
      dsimp only at hp
      have HP3 := Lib.hid hp
      have HB3 := Lib.hid (HB2.out.trans (hk3.below HM2.out))
      have HM3 : Hid (w.heap.size ≤ V3.heap.size) := Nat.le_trans HM2.out hk3.size
      clear hp hk3 HP2 HB2 HM2
      dsimp only
      have ec : V3.cell? ⟨b, o + k, none⟩ = some (.slice A1 zss[k].length c1) := by rw [HB3.out.cell (p := ⟨b, o + k, none⟩) HBL.out]; exact HC.out
      have lc : b < V3.heap.size := Nat.lt_of_lt_of_le HBL.out HB3.out.size
      by_cases hks : k < stay
      · have hksi : (k : Int) < (stay : Int) := by omega
        have HMN : Hid (min k stay = k ∧ min (k + 1) stay = k + 1) := ⟨by omega, by omega⟩
        rw [HMN.out.1] at HP3
        go_wp2_with fail
        refine (pr_round H HP3.out HM3.out A1 c1 zss[k] (HZ.out.below HB3.out) HAZ.out hzl).mono ?_
        rintro e V4 ⟨rfl, hp, hk4⟩
        have HP4 := Lib.hid hp
        have HB4 := Lib.hid (HB3.out.trans (hk4.below HM3.out))
        have HM4 : Hid (w.heap.size ≤ V4.heap.size) := Nat.le_trans HM3.out hk4.size
        clear hp hk4 HP3 HB3 HM3 ec lc
        go_wp2_with fail
        refine (guid_any 2 k V4).mono ?_
        rintro e V5 ⟨rfl, b5⟩
        have HP5 := Lib.hid (Pr.below H HP4.out b5)
        have HB5 := Lib.hid (HB4.out.trans (b5.mono HM4.out))
        have HM5 : Hid (w.heap.size ≤ V5.heap.size) := Nat.le_trans HM4.out b5.size
        clear b5 HP4 HB4 HM4
        go_wp2_with fail
        refine (pr_snap H HP5.out HM5.out (2, k) HGB.out HS1.out).mono ?_
        rintro e V6 ⟨rfl, hp, hk6⟩
        dsimp only at hp
        have HP6 := Lib.hid hp
        have HB6 := Lib.hid (HB5.out.trans (hk6.below HM5.out))
        clear hp hk6 HP5 HB5 HM5
        dsimp only
        go_wp2_with fail
        go_roundw
        case rel => exact ⟨k + 1, by omega, by go_num, by rw [HMN.out.2]; exact HP6.out, HB6.out⟩
        case measure => simp [intOf]; omega
      · have hksi : ¬ (k : Int) < (stay : Int) := by omega
        have HMN : Hid (min k stay = stay ∧ min (k + 1) stay = stay) := ⟨by omega, by omega⟩
        rw [HMN.out.1] at HP3
        go_wp2_with fail
        go_roundw
        case rel => exact ⟨k + 1, by omega, by go_num, by rw [HMN.out.2]; exact HP3.out, HB3.out⟩
        case measure => simp [intOf]; omega
    · have hkM : ¬ (k : Int) < (M : Int) := by omega
      have hkMe : k = M := by omega
      have hp := HP.out
      rw [hkMe, Nat.min_eq_right hstM] at hp
      have HP1 := Lib.hid hp
      have HMW : Hid (w.heap.size ≤ wr.heap.size) := HB.out.size
      clear hp HP hkMe
      have hstb : b64 (stay : Int) := by unfold b64; omega
      have HSTB := Lib.hid hstb
      clear hstb
      go_wp2_with fail
      refine (pl_roll H HP1.out HMW.out (stay : Int) HSTB.out (aS_roll M stay hstM)).mono ?_
      rintro e V1 ⟨rfl, hp, hk1⟩
      dsimp only at hp
      have HP2 := Lib.hid hp
      have HB1 := Lib.hid (HB.out.trans (hk1.below HMW.out))
      have HM1 : Hid (w.heap.size ≤ V1.heap.size) := Nat.le_trans HMW.out hk1.size
      clear hp hk1 HP1 HB HMW
      dsimp only
      go_wp2_with fail
      refine (pl_list H HP2.out).mono ?_
      rintro e V2 ⟨A2, c2, rfl, -, -, b2⟩
      rw [aS_list_len]
      have HP3 := Lib.hid (Pr.below H HP2.out b2)
      have HB2 := Lib.hid (HB1.out.trans (b2.mono HM1.out))
      have HM2 : Hid (w.heap.size ≤ V2.heap.size) := Nat.le_trans HM1.out b2.size
      clear b2 HP2 HB1 HM1
      have hq0 : ((stay : Int) != (stay : Int)) = false := by simp
      go_wp2_with fail
      refine (pr_list H HP3.out).mono ?_
      rintro e V3 ⟨A3, c3, rfl, -, -, b3⟩
      rw [aS_list_len]
      have HP4 := Lib.hid (Pr.below H HP3.out b3)
      have HB3 := Lib.hid (HB2.out.trans (b3.mono HM2.out))
      have HM3 : Hid (w.heap.size ≤ V3.heap.size) := Nat.le_trans HM2.out b3.size
      clear b3 HP3 HB2 HM2
      go_wp2_with fail
      refine (pl_live H HP4.out).mono ?_
      rintro e V4 ⟨A4, c4, rfl, hx, -, b4⟩
      have HX := Lib.hid hx
      have HP5 := Lib.hid (Pr.below H HP4.out b4)
      have HB4 := Lib.hid (HB3.out.trans (b4.mono HM3.out))
      have HM4 : Hid (w.heap.size ≤ V4.heap.size) := Nat.le_trans HM3.out b4.size
      clear b4 HP4 HB3 HM3 hx
      rw [aS_live_len]
      go_wp2_with fail
      refine (pr_live H HP5.out).mono ?_
      rintro e V5 ⟨A5, c5, rfl, hy, -, b5⟩
      have HY := Lib.hid hy
      have HX2 := Lib.hid (HX.out.below b5)
      have HP6 := Lib.hid (Pr.below H HP5.out b5)
      have HB5 := Lib.hid (HB4.out.trans (b5.mono HM4.out))
      have HM5 : Hid (w.heap.size ≤ V5.heap.size) := Nat.le_trans HM4.out b5.size
      clear b5 HP5 HB4 HM4 hy HX
      rw [aS_live_len]
      obtain ⟨vv, hvv⟩ : ∃ v, (aS gd2 zss stay).live = v := ⟨_, rfl⟩
      have HV8 : Hid (vv.length = 8) := by unfold Hid; rw [← hvv]; exact aS_live_len stay
      rw [hvv] at HX2 HY
      clear hvv
      go_wp2_with fail
      go_loopw [12] (fun i wr => CmpRel 8 V5 i wr) (fun i _ => 8 - (intOf i).toNat)
      case atStart => exact ⟨0, Nat.zero_le _, rfl, Below.refl _ _⟩
      case round =>
        obtain ⟨j, hj, rfl, hb⟩ := hrel
        have HBJ := Lib.hid hb
        clear hb
        by_cases hj8 : j < 8
        · have hj8i : (j : Int) < 8 := by omega
          have hjv : j < vv.length := by rw [HV8.out]; exact hj8
          obtain ⟨bx, ox, rfl, hbx, hcx⟩ := HX2.out j hjv
          obtain ⟨by_, oy, rfl, hby, hcy⟩ := HY.out j hjv
          have e0 : wr.cell? ⟨bx, ox + j, none⟩ = some (.string (str vv[j])) := by rw [HBJ.out.cell (p := ⟨bx, ox + j, none⟩) hbx]; exact hcx
          have e1 : wr.cell? ⟨by_, oy + j, none⟩ = some (.string (str vv[j])) := by rw [HBJ.out.cell (p := ⟨by_, oy + j, none⟩) hby]; exact hcy
          have l0 : bx < wr.heap.size := Nat.lt_of_lt_of_le hbx HBJ.out.size
          have l1 : by_ < wr.heap.size := Nat.lt_of_lt_of_le hby HBJ.out.size
          clear hcx hcy
          generalize str vv[j] = S at *
          have hq : (S.toList != S.toList) = false := by simp
          go_wp2_with fail
          go_quiet (fail)
          go_wp2_with fail
          go_roundw
          case rel => exact ⟨j + 1, by omega, by go_num, by exact ⟨HBJ.out.os, HBJ.out.tape, HBJ.out.output, HBJ.out.size, HBJ.out.block⟩⟩
          case measure => simp [intOf]; omega
        · have hj8i : ¬ (j : Int) < 8 := by omega
          have HP7 := Lib.hid (Pr.below H HP6.out HBJ.out)
          have HB7 := Lib.hid (HB5.out.trans (HBJ.out.mono HM5.out))
          clear HP6 HB5 HM5 HX2 HY hj hj8
          go_wp2_with fail
          obtain ⟨wa, hwa⟩ : ∃ x, x = wr := ⟨_, rfl⟩
          subst hwa
          go_loopw [13] (fun i wr => Bc3Rel Is zss p q stay w.heap.size w i wr) (fun i _ => stay - (intOf i).toNat)
          case atStart => exact ⟨0, Nat.zero_le _, rfl, HP7.out, HB7.out⟩
          case round =>
            clear HP7 HB7 HBJ
            obtain ⟨r, hr, rfl, hp, hb⟩ := hrel
            have HPr := Lib.hid hp
            have HBr := Lib.hid hb
            have HMr : Hid (w.heap.size ≤ wr.heap.size) := hb.size
            clear hp hb
            by_cases hrs : r < stay
            · have hrsi : (r : Int) < (stay : Int) := by omega
              have hrb : b64 (r : Int) := by unfold b64; omega
              have HRB := Lib.hid hrb
              have hch := aS_changes (gd := gd2) (zss := zss) stay r hrs
              have hdl : (diffs (lv zss r) (lv zss (r + 1))).length ≤ 8 := by have := diffs_len (lv zss r) (lv zss (r + 1)); rw [(lv_ok zss (r + 1)).1] at this; exact this
              generalize diffs (lv zss r) (lv zss (r + 1)) = D at *
              have HCH := Lib.hid hch
              clear hrb hch
              go_wp2_with fail
              refine (pl_changes H HPr.out (r : Int) HRB.out HCH.out).mono ?_
              rintro e U1 ⟨A6, c6, rfl, hx, -, b6⟩
              dsimp only at hx
              have HX := Lib.hid hx
              have HP1 := Lib.hid (Pr.below H HPr.out b6)
              have HB1 := Lib.hid (HBr.out.trans (b6.mono HMr.out))
              have HM1 : Hid (w.heap.size ≤ U1.heap.size) := Nat.le_trans HMr.out b6.size
              clear hx b6 HPr HBr HMr
              dsimp only
              go_wp2_with fail
              refine (pr_changes H HP1.out (r : Int) HRB.out HCH.out).mono ?_
              rintro e U2 ⟨A7, c7, rfl, hy, -, b7⟩
              dsimp only at hy
              have HY := Lib.hid hy
              have HX2 := Lib.hid (HX.out.below b7)
              have HP2 := Lib.hid (Pr.below H HP1.out b7)
              have HB2 := Lib.hid (HB1.out.trans (b7.mono HM1.out))
              have HM2 : Hid (w.heap.size ≤ U2.heap.size) := Nat.le_trans HM1.out b7.size
              clear hy b7 HP1 HB1 HM1 HX
              dsimp only
              have hq0 : ((D.length : Int) != (D.length : Int)) = false := by simp
              go_wp2_with fail
              go_loopw [18] (fun i wr => CmpRel D.length U2 i wr) (fun i _ => D.length - (intOf i).toNat)
              case atStart => exact ⟨0, Nat.zero_le _, rfl, Below.refl _ _⟩
              case round =>
                obtain ⟨j, hj, rfl, hb⟩ := hrel
                have HBJ := Lib.hid hb
                clear hb
                by_cases hjd : j < D.length
                · have hjdi : (j : Int) < (D.length : Int) := by omega
                  obtain ⟨bx, ox, rfl, hbx, hcx, hcx1, _⟩ := HX2.out j hjd
                  obtain ⟨by_, oy, rfl, hby, hcy, hcy1, _⟩ := HY.out j hjd
                  have e0 : wr.cell? ⟨bx, ox + j * 2, none⟩ = some (.int .i64 D[j].1) := by rw [HBJ.out.cell (p := ⟨bx, ox + j * 2, none⟩) hbx]; exact hcx
                  have e1 : wr.cell? ⟨bx, ox + j * 2 + 1, none⟩ = some (.string (str D[j].2)) := by rw [HBJ.out.cell (p := ⟨bx, ox + j * 2 + 1, none⟩) hbx]; exact hcx1
                  have e2 : wr.cell? ⟨by_, oy + j * 2, none⟩ = some (.int .i64 D[j].1) := by rw [HBJ.out.cell (p := ⟨by_, oy + j * 2, none⟩) hby]; exact hcy
                  have e3 : wr.cell? ⟨by_, oy + j * 2 + 1, none⟩ = some (.string (str D[j].2)) := by rw [HBJ.out.cell (p := ⟨by_, oy + j * 2 + 1, none⟩) hby]; exact hcy1
                  have l0 : bx < wr.heap.size := Nat.lt_of_lt_of_le hbx HBJ.out.size
                  have l1 : by_ < wr.heap.size := Nat.lt_of_lt_of_le hby HBJ.out.size
                  clear hcx hcy hcx1 hcy1
                  generalize str D[j].2 = S at *
                  generalize D[j].1 = z at *
                  have hq : (S.toList == S.toList) = true := by simp
                  have hqz : (z == z) = true := by simp
                  go_wp2_with fail
                  go_quiet (fail)
                  go_wp2_with fail
                  refine ⟨⟨j + 1, by omega, by go_num, ⟨HBJ.out.os, HBJ.out.tape, HBJ.out.output, HBJ.out.size, HBJ.out.block⟩⟩, ?_⟩
                  simp [intOf]
                  omega
                · have hjdi : ¬ (j : Int) < (D.length : Int) := by omega
                  have HP3 := Lib.hid (Pr.below H HP2.out HBJ.out)
                  have HB3 := Lib.hid (HB2.out.trans (HBJ.out.mono HM2.out))
                  clear HP2 HB2 HM2 HX2 HY hj hjd
                  go_wp2_with fail
                  go_roundw
                  case rel => exact ⟨r + 1, by omega, by go_num, HP3.out, HB3.out⟩
                  case measure => simp [intOf]; omega
            · have hrsi : ¬ (r : Int) < (stay : Int) := by omega
              go_wp2_with fail
              refine (guid_any 2 99 wr).mono ?_
              rintro e U1 ⟨rfl, b⟩
              have HP1 := Lib.hid (Pr.below H HPr.out b)
              have HB1 := Lib.hid (HBr.out.trans (b.mono HMr.out))
              have HM1 : Hid (w.heap.size ≤ U1.heap.size) := Nat.le_trans HMr.out b.size
              clear b HPr HBr HMr
              obtain ⟨dl, hdl⟩ := aS_99 (zss := zss) stay (by omega)
              go_wp2_with fail
              refine (pl_snap H HP1.out HM1.out (2, 99) ⟨by decide, by decide⟩ hdl).mono ?_
              rintro e U2 ⟨rfl, _, hk⟩
              dsimp only
              have HB2 := Lib.hid (HB1.out.trans (hk.below HM1.out))
              clear hk
              go_wp2_with fail
              go_ret
              exact ⟨rfl, HB2.out⟩
end Go.Proofs.Ytfinmfmbbgakhaa.ch

