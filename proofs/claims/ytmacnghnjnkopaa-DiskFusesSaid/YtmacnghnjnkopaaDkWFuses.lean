/- The walk of DiskFuses. -/
import Derived.Test.YtmacnghnjnkopaaDkNil
import Derived.OpenShut
namespace Go.Proofs.Ytmacnghnjnkopaa.dk
open Go Go.RowKit

def stepF (i : Nat) (d : DD) : Int × DD := if i % 2 = 0 then d.flush else d.write (i : Int) (dat 97)

/-- What is so behind the operation by which the power went. -/
def endOk (F : Nat) (d : DD) : Bool :=
  !d.on && decide (d.more.length < 5) && (d.wake []).on && (List.range 32).all (fun j => decide ((d.wake []).read ((2 * j + 1 : Nat) : Int) = (if 2 * j + 2 < F then dat 97 else dat 0, 0))) &&
  decide (((d.wake []).write 0 (dat 97)).1 = 0) && decide (((d.wake []).write 0 (dat 97)).2.flush.1 = 0) && ((d.wake []).write 0 (dat 97)).2.flush.2.on

def chk (F : Nat) : Nat → Nat → DD → Bool
  | 0, _, _ => false
  | f + 1, i, d => decide (d.more.length < 5) && (if i < F then decide ((stepF i d).1 = 0) && ((stepF i d).2.on && chk F f (i + 1) (stepF i d).2) else decide ((stepF i d).1 = 6) && endOk F (stepF i d).2)

set_option maxRecDepth 100000 in
theorem chk_all : ∀ F : Fin 61, 1 ≤ F.1 → chk F.1 61 1 ((DD.new 64 64).arm (F.1 : Int)) = true := by decide +kernel

def FuRel (w : World) (F p : Nat) (i : Value) (wr : World) : Prop :=
  ∃ (k : Nat) (d : DD), 1 ≤ k ∧ k ≤ F ∧ i = .int .i64 (k : Int) ∧ In 10 wr w.heap.size p d ∧ chk F (62 - k) k d = true ∧ Below w.heap.size w wr

theorem chk_more {F i : Nat} {d : DD} (hF : F ≤ 60) (hi : i ≤ F) (h : chk F (62 - i) i d = true) : d.more.length < 5 := by
  rw [show 62 - i = (61 - i) + 1 by omega] at h
  unfold chk at h
  simp only [Bool.and_eq_true, decide_eq_true_eq] at h
  exact h.1
theorem chk_go {F i : Nat} {d : DD} (hF : F ≤ 60) (hi : i < F) (h : chk F (62 - i) i d = true) : (stepF i d).1 = 0 ∧ (stepF i d).2.on = true ∧ chk F (62 - (i + 1)) (i + 1) (stepF i d).2 = true := by
  rw [show 62 - i = (62 - (i + 1)) + 1 by omega] at h
  unfold chk at h
  rw [if_pos hi] at h
  simp only [Bool.and_eq_true, decide_eq_true_eq] at h
  exact ⟨h.2.1, h.2.2⟩
theorem chk_end {F : Nat} {d : DD} (hF : F ≤ 60) (h : chk F (62 - F) F d = true) : (stepF F d).1 = 6 ∧ endOk F (stepF F d).2 = true := by
  rw [show 62 - F = (61 - F) + 1 by omega] at h
  unfold chk at h
  rw [if_neg (by omega)] at h
  simp only [Bool.and_eq_true, decide_eq_true_eq] at h
  exact h.2

theorem endOk_parts {F : Nat} {d : DD} (h : endOk F d = true) : d.on = false ∧ d.more.length < 5 ∧ (d.wake []).on = true ∧ (∀ j, j < 32 → (d.wake []).read ((2 * j + 1 : Nat) : Int) = (if 2 * j + 2 < F then dat 97 else dat 0, 0)) ∧
    ((d.wake []).write 0 (dat 97)).1 = 0 ∧ ((d.wake []).write 0 (dat 97)).2.flush.1 = 0 ∧ ((d.wake []).write 0 (dat 97)).2.flush.2.on = true := by
  unfold endOk at h
  simp only [Bool.and_eq_true, Bool.not_eq_true', decide_eq_true_eq, List.all_eq_true, List.mem_range] at h
  obtain ⟨⟨⟨⟨⟨⟨h1, h2⟩, h3⟩, h4⟩, h5⟩, h6⟩, h7⟩ := h
  exact ⟨h1, h2, h3, h4, h5, h6, h7⟩

set_option maxRecDepth 100000 in
set_option maxHeartbeats 1600000 in
theorem diskFuses_walk (a0 : Int) (w0 : (Lit.int .u8 a0).wf = true) (w : World) : Calls Try.prog 6 #[.int .u8 a0] w (okB true w) := by
  have hb := bounds_u8 w0
  obtain ⟨n, rfl⟩ := Int.eq_ofNat_of_zero_le (show 0 ≤ a0 from by omega)
  have hn : n < 256 := by omega
  clear hb w0
  obtain ⟨F, hF⟩ : ∃ F, F = 1 + n % 60 := ⟨_, rfl⟩
  have hF0 : 1 ≤ F := by omega
  have hF1 : F ≤ 60 := by omega
  have hFe : (1 : Int) + (n : Int) % 60 = (F : Int) := by omega
  have HFE := Lib.hid hF
  have hck := chk_all ⟨F, by omega⟩ hF0
  have HCK := Lib.hid hck
  clear hF hck
  obtain ⟨S97, H97⟩ : ∃ s, Hid (str (dat 97) = s) := ⟨_, rfl⟩
  have L97 : Hid (bl S97 = dat 97) := by unfold Hid; rw [← H97.out, bl_str]
  obtain ⟨S0, H0⟩ : ∃ s, Hid (str (dat 0) = s) := ⟨_, rfl⟩
  have hq0 : (S0.toList == S97.toList) = false := by
    rw [← H97.out, beq_bl, ← H0.out, bl_str]
    decide +kernel
  have hq1 : (S97.toList == S97.toList) = true := by simp
  go_enter Try.func6, Try.ntmps6
  go_wp2_with fail
  refine (works_any _).mono ?_
  rintro e W1 ⟨rfl, b1⟩
  have B1 := Lib.hid b1
  clear b1
  go_wp2_with fail
  refine (new_in 10 64 64 (by decide) (by decide) (by decide) (by decide) _).mono ?_
  rintro e W2 ⟨p, rfl, i2, b2⟩
  have I2 := Lib.hid (i2.base B1.out.size)
  have B2 := Lib.hid (below_step B1.out b2)
  clear i2 b2 B1
  go_wp2_with fail
  refine (arm_in I2.out B2.out.size (F : Int) (by omega) _ rfl).mono ?_
  rintro e W3 ⟨rfl, i3, b3⟩
  have I3 := Lib.hid i3
  have B3 := Lib.hid (B2.out.trans b3)
  clear i3 b3 I2 B2 hFe
  go_wp2_with fail
  go_loopw [5] (fun i wr => FuRel w F p i wr) (fun i _ => F - (intOf i).toNat)
  case atStart => exact ⟨1, _, Nat.le_refl _, hF0, rfl, I3.out, HCK.out, B3.out⟩
  case round =>
    obtain ⟨k, d, hk0, hk1, rfl, hi, hc, hB⟩ := hrel
    have I4 := Lib.hid hi
    have C4 := Lib.hid hc
    have B4 := Lib.hid hB
    clear hi hc hB I3 HCK B3
    have hmo := chk_more hF1 hk1 C4.out
    by_cases hlt : k < F
    · obtain ⟨e0, e1, e2⟩ := chk_go hF1 hlt C4.out
      have E2 := Lib.hid e2
      clear e2
      by_cases hev : k % 2 = 0
      · have hevI : ((k : Int) % 2) = 0 := by omega
        have hst : stepF k d = d.flush := by unfold stepF; rw [if_pos hev]
        rw [hst] at e0 e1 E2
        have E0 := Lib.hid e0
        have E1 := Lib.hid e1
        clear hst e0 e1 hev
        go_wp2_with fail
        refine (flush_in I4.out B4.out.size 0 _ E0.out rfl).mono ?_
        rintro e W5 ⟨rfl, i5, b5⟩
        have I5 := Lib.hid i5
        have B5 := Lib.hid (B4.out.trans b5)
        clear i5 b5
        go_wp2_with fail
        refine (on_in I5.out true E1.out).mono ?_
        rintro e w6 ⟨rfl, rfl⟩
        go_wp2_with fail
        go_roundw
        case rel => exact ⟨k + 1, _, by omega, by omega, by go_num, I5.out, E2.out, B5.out⟩
        case measure => simp [intOf]; omega
      · have hevI : ((k : Int) % 2) = 1 := by omega
        have hst : stepF k d = d.write (k : Int) (dat 97) := by unfold stepF; rw [if_neg hev]
        rw [hst] at e0 e1 E2
        have E0 := Lib.hid e0
        have E1 := Lib.hid e1
        clear hst e0 e1 hev
        go_wp2_with fail
        refine (data_in I4.out 97 97 rfl S97 H97.out).mono ?_
        rintro e W5 ⟨rfl, i5, b5⟩
        have I5 := Lib.hid i5
        have B5 := Lib.hid (below_step B4.out b5)
        clear i5 b5
        go_wp2_with fail
        refine (write_in I5.out B5.out.size (by omega) (by decide) (k : Int) S97 _ L97.out 0 _ E0.out rfl).mono ?_
        rintro e W6 ⟨rfl, i6, b6⟩
        have I6 := Lib.hid i6
        have B6 := Lib.hid (B5.out.trans b6)
        clear i6 b6
        go_wp2_with fail
        refine (on_in I6.out true E1.out).mono ?_
        rintro e w6 ⟨rfl, rfl⟩
        go_wp2_with fail
        go_roundw
        case rel => exact ⟨k + 1, _, by omega, by omega, by go_num, I6.out, E2.out, B6.out⟩
        case measure => simp [intOf]; omega
    · have hkF : k = F := by omega
      clear hlt hk1 hk0
      subst hkF
      obtain ⟨e0, e1⟩ := chk_end hF1 C4.out
      obtain ⟨f1, f2, f3, f4, f5, f6, f7⟩ := endOk_parts e1
      have E0 := Lib.hid e0
      have F1 := Lib.hid f1
      have F2 := Lib.hid f2
      have F3 := Lib.hid f3
      have F4 := Lib.hid f4
      have F5 := Lib.hid f5
      have F6 := Lib.hid f6
      have F7 := Lib.hid f7
      clear e0 e1 f1 f2 f3 f4 f5 f6 f7 C4
      have HST := Lib.hid (show stepF k d = if k % 2 = 0 then d.flush else d.write (k : Int) (dat 97) from rfl)
      obtain ⟨d6, hd6⟩ : ∃ d6, d6 = (stepF k d).2 := ⟨_, rfl⟩
      rw [← hd6] at F1 F2 F3 F4 F5 F6 F7
      have HD6 := Lib.hid hd6
      clear hd6
      by_cases hev : k % 2 = 0
      case' pos =>
        have hevI : ((k : Int) % 2) = 0 := by omega
        have hst : stepF k d = d.flush := by rw [HST.out, if_pos hev]
        have HS := Lib.hid hst
        clear hst hev
        go_wp2_with fail
        refine (flush_in I4.out B4.out.size 6 d6 (by rw [← HS.out]; exact E0.out) (by rw [← HS.out]; exact HD6.out.symm)).mono ?_
        rintro e W6 ⟨rfl, i6, b6⟩
        have I6 := Lib.hid i6
        have B6 := Lib.hid (B4.out.trans b6)
        clear i6 b6
      case' neg =>
        have hevI : ((k : Int) % 2) = 1 := by omega
        have hst : stepF k d = d.write (k : Int) (dat 97) := by rw [HST.out, if_neg hev]
        have HS := Lib.hid hst
        clear hst hev
        go_wp2_with fail
        refine (data_in I4.out 97 97 rfl S97 H97.out).mono ?_
        rintro e W5 ⟨rfl, i5, b5⟩
        have I5 := Lib.hid i5
        have B5 := Lib.hid (below_step B4.out b5)
        clear i5 b5
        go_wp2_with fail
        refine (write_in I5.out B5.out.size (by omega) (by decide) (k : Int) S97 _ L97.out 6 d6 (by rw [← HS.out]; exact E0.out) (by rw [← HS.out]; exact HD6.out.symm)).mono ?_
        rintro e W6 ⟨rfl, i6, b6⟩
        have I6 := Lib.hid i6
        have B6 := Lib.hid (B5.out.trans b6)
        clear i6 b6 I5 B5
      all_goals
        clear hevI hmo I4 B4
        go_wp2_with fail
        refine (on_in I6.out false F1.out).mono ?_
        rintro e w7 ⟨rfl, rfl⟩
        go_wp2_with fail
        refine (data_in I6.out 97 97 rfl S97 H97.out).mono ?_
        rintro e W7 ⟨rfl, i7, b7⟩
        have I7 := Lib.hid i7
        have B7 := Lib.hid (below_step B6.out b7)
        clear i7 b7
        go_wp2_with fail
        refine (write_in I7.out B7.out.size (by have := F2.out; omega) (by decide) 0 S97 _ L97.out 6 d6 (by unfold DD.write; rw [if_pos F1.out]) (by unfold DD.write; rw [if_pos F1.out])).mono ?_
        rintro e W8 ⟨rfl, i8, b8⟩
        have I8 := Lib.hid i8
        have B8 := Lib.hid (B7.out.trans b8)
        clear i8 b8
        go_wp2_with fail
        refine (flush_in I8.out B8.out.size 6 d6 (by unfold DD.flush; rw [if_pos F1.out]) (by unfold DD.flush; rw [if_pos F1.out])).mono ?_
        rintro e W9 ⟨rfl, i9, b9⟩
        have I9 := Lib.hid i9
        have B9 := Lib.hid (B8.out.trans b9)
        clear i9 b9
        go_wp2_with fail
        refine (wake_in I9.out B9.out.size (by decide) _ _ _ [] rfl (fun i h => absurd h (by simp)) (.inl (fun _ _ h => by cases h)) _ rfl).mono ?_
        rintro e W10 ⟨rfl, i10, b10⟩
        have I10 := Lib.hid i10
        have B10 := Lib.hid (B9.out.trans b10)
        clear i10 b10 I6 B6 I7 B7 I8 B8 I9 B9
        go_wp2_with fail
        go_loopw [8] (fun i wr => ∃ j : Nat, j ≤ 32 ∧ i = .int .i64 (2 * (j : Int) + 1) ∧ In 10 wr w.heap.size p (d6.wake []) ∧ Below w.heap.size w wr) (fun i _ => (65 - intOf i).toNat)
        case' atStart => exact ⟨0, by omega, rfl, I10.out, B10.out⟩
        case' round =>
          obtain ⟨j, hj, rfl, hi, hB⟩ := hrel
          have I11 := Lib.hid hi
          have B11 := Lib.hid hB
          clear hi hB I10 B10
          by_cases hlt : j < 32
          case' pos =>
            have hrd := F4.out j hlt
            have ecast : ((2 * j + 1 : Nat) : Int) = 2 * (j : Int) + 1 := by omega
            rw [ecast] at hrd
            have HRD := Lib.hid hrd
            clear hrd ecast
            by_cases hjF : 2 * j + 2 < k
            case' pos =>
              have hjI : 2 * (j : Int) + 1 + 1 < (k : Int) := by omega
              rw [if_pos hjF] at HRD
              clear hjF
              go_wp2_with fail
              refine (read_in I11.out _ _ S97 H97.out 0 HRD.out).mono ?_
              rintro e W12 ⟨rfl, i12, b12⟩
              have I12 := Lib.hid i12
              have B12 := Lib.hid (below_step B11.out b12)
              clear i12 b12
              go_wp2_with fail
              refine (data_in I12.out 97 97 rfl S97 H97.out).mono ?_
              rintro e W13 ⟨rfl, i13, b13⟩
              have I13 := Lib.hid i13
              have B13 := Lib.hid (below_step B12.out b13)
              clear i13 b13
              go_wp2_with fail
              go_roundw
              case' rel => exact ⟨j + 1, by omega, by simp; omega, I13.out, B13.out⟩
              case' measure => simp [intOf]; omega
            case' neg =>
              have hjI : (k : Int) ≤ 2 * (j : Int) + 1 + 1 := by omega
              rw [if_neg hjF] at HRD
              clear hjF
              go_wp2_with fail
              refine (read_in I11.out _ _ S0 H0.out 0 HRD.out).mono ?_
              rintro e W12 ⟨rfl, i12, b12⟩
              have I12 := Lib.hid i12
              have B12 := Lib.hid (below_step B11.out b12)
              clear i12 b12
              go_wp2_with fail
              refine (data_in I12.out 97 97 rfl S97 H97.out).mono ?_
              rintro e W13 ⟨rfl, i13, b13⟩
              have I13 := Lib.hid i13
              have B13 := Lib.hid (below_step B12.out b13)
              clear i13 b13
              go_wp2_with fail
              go_roundw
              case' rel => exact ⟨j + 1, by omega, by simp; omega, I13.out, B13.out⟩
              case' measure => simp [intOf]; omega
          case' neg =>
            have hj32 : j = 32 := by omega
            clear hlt hj
            subst hj32
            go_wp2_with fail
            refine (data_in I11.out 97 97 rfl S97 H97.out).mono ?_
            rintro e W12 ⟨rfl, i12, b12⟩
            have I12 := Lib.hid i12
            have B12 := Lib.hid (below_step B11.out b12)
            clear i12 b12
            go_wp2_with fail
            refine (write_in I12.out B12.out.size (by unfold DD.wake; rw [F1.out]; show 0 < 10; decide) (by decide) 0 S97 _ L97.out 0 _ F5.out rfl).mono ?_
            rintro e W13 ⟨rfl, i13, b13⟩
            have I13 := Lib.hid i13
            have B13 := Lib.hid (B12.out.trans b13)
            clear i13 b13
            go_wp2_with fail
            refine (flush_in I13.out B13.out.size 0 _ F6.out rfl).mono ?_
            rintro e W14 ⟨rfl, i14, b14⟩
            have I14 := Lib.hid i14
            have B14 := Lib.hid (B13.out.trans b14)
            clear i14 b14
            go_wp2_with fail
            refine (on_in I14.out true F7.out).mono ?_
            rintro e w15 ⟨rfl, rfl⟩
            go_wp2_with fail
            go_ret
            exact ⟨rfl, B14.out⟩
end Go.Proofs.Ytmacnghnjnkopaa.dk
