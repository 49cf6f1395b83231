/- The walk of DiskWakes, itself. -/
import Derived.Test.YtmacnghnjnkopaaDkWWakes
namespace Go.Proofs.Ytmacnghnjnkopaa.dk
open Go Go.RowKit

def ARel (w : World) (b p : Nat) (zs : List (UInt8 × UInt8)) (base : Sects) (i : Value) (wr : World) : Prop :=
  ∃ (k : Nat) (d : DD), k ≤ zs.length ∧ k ≤ 50 ∧ i = .int .i64 (k : Int) ∧ InG 200 wr (GW w b) p d ∧ St d base k ∧ Blk wr b 9 (vals (cont d.now)).toArray ∧ Below w.heap.size w wr
def BRel (w : World) (b p : Nat) (zs : List (UInt8 × UInt8)) (bs : List Bool) (base : Sects) (i : Value) (wr : World) : Prop :=
  ∃ (k : Nat) (d : DD), k ≤ zs.length ∧ k ≤ 50 ∧ i = .int .i64 (k : Int) ∧ InG 200 wr (GW w b) p d ∧ St d base k ∧ Blk wr b 9 (vals (cont (play base (stay d.more bs)))).toArray ∧ Below w.heap.size w wr

theorem gw {w W : World} {b : Nat} (hb : b < W.heap.size) (hB : Below w.heap.size w W) : ∀ j, W.heap.size ≤ j → GW w b j := fun j hj => ⟨Nat.le_trans hB.size hj, by omega⟩

set_option maxRecDepth 100000 in
set_option maxHeartbeats 12800000 in
theorem diskWakes_walk (A0 : Option Addr) (c0 : Nat) (xs : List (UInt8 × UInt8)) (A1 : Option Addr) (c1 : Nat) (ys : List (UInt8 × UInt8)) (A2 : Option Addr) (c2 : Nat) (bs : List Bool) (w : World)
    (hl0 : xs.length ≤ 9223372036854775807) (hX : PutsAt w A0 xs) (hl1 : ys.length ≤ 9223372036854775807) (hY : PutsAt w A1 ys) (hl2 : bs.length ≤ 9223372036854775807) (hK : BoolsAt w A2 bs) :
    Calls Try.prog 5 #[.slice A0 xs.length c0, .slice A1 ys.length c1, .slice A2 bs.length c2] w (okB true w) := by
  have HXs := Lib.hid hX
  have HYs := Lib.hid hY
  have HKs := Lib.hid hK
  clear hX hY hK
  go_enter Try.func5, Try.ntmps5
  go_wp2_with fail
  refine (works_any _).mono ?_
  rintro e W1 ⟨rfl, b1⟩
  have B1 := Lib.hid b1
  clear b1
  go_wp2_with fail
  refine (new_in 200 20 20 (by decide) (by decide) (by decide) (by decide) _).mono ?_
  rintro e W2 ⟨p, rfl, i2, b2⟩
  have I2 := Lib.hid (i2.base B1.out.size)
  have B2 := Lib.hid (below_step B1.out b2)
  clear i2 b2 B1
  go_wp2_with (at_make; refine wpList_value rfl (exec_make20 _ _ rfl rfl rfl) ?_)
  have I3 : Hid (InG 200 (W2.alloc (.cells (vals blank).toArray 9)) (GW w W2.heap.size) p (DD.new 20 20)) :=
    (I2.out.inG (GW w W2.heap.size) (fun j h1 h2 => ⟨h1, Nat.ne_of_lt h2⟩)).below ((Below.refl _ _).alloc (Nat.le_refl _) _)
  have K3 : Hid (Blk (W2.alloc (.cells (vals blank).toArray 9)) W2.heap.size 9 (vals blank).toArray) := Blk.new _ _ _
  have B3 : Hid (Below w.heap.size w (W2.alloc (.cells (vals blank).toArray 9))) := B2.out.alloc B2.out.size _
  have HBB := Lib.hid B2.out.size
  clear I2 B2
  generalize W2.alloc (.cells (vals blank).toArray 9) = W3 at *
  generalize W2.heap.size = b at *
  obtain ⟨d0, hd0⟩ : ∃ d0, d0 = DD.new 20 20 := ⟨_, rfl⟩
  rw [← hd0] at I3
  have HD0 := Lib.hid hd0
  clear hd0
  go_loopw [9] (fun i wr => ∃ k : Nat, k ≤ 20 ∧ i = .int .i64 (k : Int) ∧ InG 200 wr (GW w b) p d0 ∧ Blk wr b 9 (vals (zeros k)).toArray ∧ Below w.heap.size w wr) (fun i _ => 20 - (intOf i).toNat)
  case atStart => exact ⟨0, by omega, rfl, I3.out, by rw [zeros_zero]; exact K3.out, B3.out⟩
  case round =>
    obtain ⟨k, hk, rfl, hi, hkb, hB⟩ := hrel
    have I4 := Lib.hid hi
    have K4 := Lib.hid hkb
    have B4 := Lib.hid hB
    clear hi hkb hB I3 K3 B3
    by_cases hlt : k < 20
    · go_wp2_with fail
      refine (data_any 0 _).mono ?_
      rintro e W5 ⟨rfl, b5⟩
      rw [← zz_dat]
      have I5 := Lib.hid (I4.out.below b5)
      have B5 := Lib.hid (below_step B4.out b5)
      have hK5 : Blk W5 b _ _ := K4.out.of_block (b5.block b K4.out.lt)
      have K5 := Lib.hid hK5
      obtain ⟨u, hu⟩ := vals_some (zeros k) k (by rw [zeros_length k hk]; exact hlt)
      have hcell : W5.cell? ⟨b, k, none⟩ = some u := (hK5.cell k).trans hu
      have hfz := hK5.frozen k
      clear b5 hK5 hu
      go_wp2_with fail
      go_roundw
      case rel =>
        refine ⟨k + 1, by omega, by go_num, I5.out.but ((But.refl (fun j => j = b) W5).setCell _ _ (.inl rfl)) (fun j hj => hj.2), ?_, B5.out.setCell HBB.out _⟩
        rw [← zeros_set k hlt, ← vals_set]
        exact K5.out.set_ k _
      case measure => simp [intOf]; omega
    · have hk20 : k = 20 := by omega
      have hS0 : St d0 (List.replicate 20 none) 0 := by rw [HD0.out]; exact ⟨rfl, rfl, by simp [DD.n, DD.new], rfl, rfl, rfl⟩
      have hc0 : zeros k = cont d0.now := by rw [HD0.out, hk20]; rfl
      have S0 := Lib.hid hS0
      have KK := K4.out
      rw [hc0] at KK
      have K4' := Lib.hid KK
      clear hS0 hc0 KK K4 hk20
      go_wp2_with fail
      go_loopw [10] (fun i wr => ARel w b p xs (List.replicate 20 none) i wr) (fun i _ => 51 - (intOf i).toNat)
      case' atStart => exact ⟨0, _, Nat.zero_le _, Nat.zero_le _, rfl, I4.out, S0.out, K4'.out, B4.out⟩
      case' round =>
        obtain ⟨k, d, hk, hk50, rfl, hi, hst, hkb, hB⟩ := hrel
        have I6 := Lib.hid hi
        have S6 := Lib.hid hst
        have K6 := Lib.hid hkb
        have B6 := Lib.hid hB
        clear hi hst hkb hB I4 K4' B4 S0
        by_cases hin : k < xs.length ∧ k < 50
        case' pos =>
          obtain ⟨hlt, hlt2⟩ := hin
          obtain ⟨bb, bo, rfl, hbb, hc1_, hc2_⟩ := HXs.out k hlt
          have hcell1 : wr.cell? ⟨bb, bo + k * 2, none⟩ = some (.int .u8 (xs[k].1.toNat : Int)) := (B6.out.cell (p := ⟨bb, bo + k * 2, none⟩) hbb).trans hc1_
          have hbw : bb < wr.heap.size := Nat.lt_of_lt_of_le hbb B6.out.size
          have hz1 := xs[k].1.toNat_lt
          have hz2 := xs[k].2.toNat_lt
          obtain ⟨cc, hcc, hdl⟩ := letter xs[k].2.toNat (by omega)
          have hcell2 : wr.cell? ⟨bb, bo + k * 2 + 1, none⟩ = some (.int .u8 (xs[k].2.toNat : Int)) := (B6.out.cell (p := ⟨bb, bo + k * 2 + 1, none⟩) hbb).trans hc2_
          generalize xs[k].1.toNat = cz at *
          generalize xs[k].2.toNat = cl at *
          obtain ⟨at_, hat⟩ : ∃ a, a = cz % 20 := ⟨_, rfl⟩
          have hae : (cz : Int) % 20 = (at_ : Int) := by omega
          have ha20 : at_ < 20 := by omega
          have HAT := Lib.hid hat
          have hld : at_ < d.now.length := by rw [d.now_length, S6.out.n]; exact ha20
          have HLD := Lib.hid hld
          have HDL := Lib.hid hdl
          have hwr := write_room (v := dat cc) S6.out.on S6.out.fuse (by rw [S6.out.n]; exact ha20) hdl (by rw [S6.out.room, S6.out.n]; rfl)
          have HWR := Lib.hid hwr
          have hmore := S6.out.more
          obtain ⟨Sc, hSc⟩ : ∃ s, s = str (dat cc) := ⟨_, rfl⟩
          have HSc := Lib.hid hSc
          have hnow : (DD.now { d with more := d.more ++ [(at_, dat cc)] }) = put d.now at_ (dat cc) := play_snoc _ _ _
          have HNOW := Lib.hid hnow
          have HMO := Lib.hid hmore
          have hc1s : Hid ((wr.cell? ⟨bb, bo + k * 2 + 1, none⟩) = some (.int .u8 (cl : Int))) := hcell2
          have HC2 : Hid (w.cell? ⟨bb, bo + k * 2 + 1, none⟩ = some (.int .u8 (cl : Int))) := hc2_
          clear hat hld hdl hwr hSc hnow hmore hc1_ hc2_
          go_wp2_with fail
          refine (data_any cc _).mono ?_
          rintro e W7 ⟨rfl, b7⟩
          rw [← HSc.out]
          have I7 := Lib.hid (I6.out.below b7)
          have B7 := Lib.hid (below_step B6.out b7)
          have K7 := Lib.hid (K6.out.of_block (b7.block b K6.out.lt))
          clear b7 hcell1 hcell2
          go_wp2_with fail
          refine (write_g I7.out (gw K7.out.lt B7.out) (by rw [HMO.out]; omega) (by decide) (at_ : Int) Sc (dat cc) (by rw [HSc.out, bl_str]) 0 _ (by rw [HWR.out]) (by rw [HWR.out])).mono ?_
          rintro e W8 ⟨rfl, i8, b8⟩
          have I8 := Lib.hid i8
          have B8 := Lib.hid (B7.out.trans (b8.below (B := w.heap.size) (fun j hj => hj.1) B7.out.size))
          have K8 := Lib.hid (K7.out.of_block (b8.block b K7.out.lt (fun h => h.2 rfl)))
          have hcell2 : W8.cell? ⟨bb, bo + k * 2 + 1, none⟩ = some (.int .u8 (cl : Int)) := (B8.out.cell (p := ⟨bb, bo + k * 2 + 1, none⟩) hbb).trans HC2.out
          have hbw8 : bb < W8.heap.size := Nat.lt_of_lt_of_le hbb B8.out.size
          clear i8 b8 I7 B7 K7
          go_wp2_with fail
          refine (data_any cc _).mono ?_
          rintro e W9 ⟨rfl, b9⟩
          rw [← HSc.out]
          have I9 := Lib.hid (I8.out.below b9)
          have B9 := Lib.hid (below_step B8.out b9)
          have hK9 : Blk W9 b _ _ := K8.out.of_block (b9.block b K8.out.lt)
          have K9 := Lib.hid hK9
          obtain ⟨u, hu⟩ := vals_some (cont d.now) at_ (by rw [cont_length]; exact HLD.out)
          have hcellw : W9.cell? ⟨b, at_, none⟩ = some u := (hK9.cell at_).trans hu
          have hfz := hK9.frozen at_
          clear b9 hK9 hu hcell2
          go_wp2_with fail
          go_roundw
          case' rel =>
            refine ⟨k + 1, _, by omega, by omega, by go_num, I9.out.but ((But.refl (fun j => j = b) W9).setCell _ _ (.inl rfl)) (fun j hj => hj.2), ⟨S6.out.on, S6.out.fuse, S6.out.n, S6.out.room, S6.out.base, by simp [HMO.out]⟩, ?_, B9.out.setCell HBB.out _⟩
            rw [HNOW.out, cont_put, ← vals_set, ← HSc.out]
            exact K9.out.set_ at_ _
          case' measure => simp [intOf]; omega
        case' neg =>
          by_cases hlt : k < xs.length
          case' pos => have hk5 : ¬ k < 50 := fun h => hin ⟨hlt, h⟩
          all_goals
            clear hin
            have hfl := flush_ok S6.out.on S6.out.fuse
            have HFL := Lib.hid hfl
            clear hfl
            go_wp2_with fail
            refine (flush_g I6.out (gw K6.out.lt B6.out) 0 { d with base := d.now, more := [] } (by rw [HFL.out]) (by rw [HFL.out])).mono ?_
            rintro e W7 ⟨rfl, i7, b7⟩
            have I7 := Lib.hid i7
            have B7 := Lib.hid (B6.out.trans (b7.below (B := w.heap.size) (fun j hj => hj.1) B6.out.size))
            have K7 := Lib.hid (K6.out.of_block (b7.block b K6.out.lt (fun h => h.2 rfl)))
            have S7 : Hid (St { d with base := d.now, more := [] } d.now 0) := ⟨S6.out.on, S6.out.fuse, by show d.now.length = 20; rw [d.now_length]; exact S6.out.n, S6.out.room, rfl, rfl⟩
            clear i7 b7 I6 B6 K6 HFL
            obtain ⟨B0, hB0⟩ : ∃ B0, B0 = d.now := ⟨_, rfl⟩
            rw [← hB0] at S7 K7 I7
            have HB0 := Lib.hid hB0
            have HB0l : Hid (B0.length = 20) := by unfold Hid; rw [hB0, d.now_length]; exact S6.out.n
            clear hB0
            obtain ⟨e0, he0⟩ : ∃ e0, e0 = ({ d with base := B0, more := [] } : DD) := ⟨_, rfl⟩
            rw [← he0] at S7 I7
            have HE0 := Lib.hid he0
            clear he0
            go_wp2_with fail
            go_loopw [12] (fun i wv => BRel w b p ys bs B0 i wv) (fun i _ => 51 - (intOf i).toNat)
            case' atStart => exact ⟨0, e0, Nat.zero_le _, Nat.zero_le _, rfl, I7.out, S7.out, by rw [show stay e0.more bs = [] from by rw [HE0.out]; rfl]; exact K7.out, B7.out⟩
            case' round =>
              obtain ⟨m, f, hm, hm50, rfl, hi, hst, hkb, hB⟩ := hrel
              have I10 := Lib.hid hi
              have S10 := Lib.hid hst
              have K10 := Lib.hid hkb
              have B10 := Lib.hid hB
              clear hi hst hkb hB I7 K7 B7 S7
              have hBs : ∀ W, Below w.heap.size w W → BoolsAt W A2 bs := fun W hW i hi => by
                obtain ⟨b', o', h1, h2, h3⟩ := HKs.out i hi
                exact ⟨b', o', h1, Nat.lt_of_lt_of_le h2 hW.size, (hW.cell (p := ⟨b', o' + i, none⟩) h2).trans h3⟩
              have HBs := Lib.hid hBs
              clear hBs
              by_cases hin : m < ys.length ∧ m < 50
              case' pos =>
                obtain ⟨hlt', hlt2⟩ := hin
                obtain ⟨bb, bo, rfl, hbb, hc1_, hc2_⟩ := HYs.out m hlt'
                have hcell1 := (B10.out.cell (p := ⟨bb, bo + m * 2, none⟩) hbb).trans hc1_
                have hz1 := ys[m].1.toNat_lt
                have hz2 := ys[m].2.toNat_lt
                obtain ⟨cc, hcc, hdl⟩ := letter ys[m].2.toNat (by omega)
                have hcell2 := (B10.out.cell (p := ⟨bb, bo + m * 2 + 1, none⟩) hbb).trans hc2_
                have HC2 := Lib.hid hc2_
                have hbw := Nat.lt_of_lt_of_le hbb B10.out.size
                clear hc1_ hc2_
                generalize ys[m].1.toNat = cz at *
                generalize ys[m].2.toNat = cl at *
                obtain ⟨at_, hat⟩ : ∃ a, a = cz % 20 := ⟨_, rfl⟩
                have hae : (cz : Int) % 20 = (at_ : Int) := by omega
                have ha20 : at_ < 20 := by omega
                have HAT := Lib.hid hat
                have hldn : at_ < f.now.length := by rw [f.now_length, S10.out.n]; exact ha20
                have HLDN := Lib.hid hldn
                have hld : at_ < (play B0 (stay f.more bs)).length := by rw [play_length, HB0l.out]; exact ha20
                have HLD := Lib.hid hld
                have HDL := Lib.hid hdl
                have hwr := write_room (v := dat cc) S10.out.on S10.out.fuse (by rw [S10.out.n]; exact ha20) hdl (by rw [S10.out.room, S10.out.n]; rfl)
                have HWR := Lib.hid hwr
                have HMO := Lib.hid S10.out.more
                obtain ⟨Sc, hSc⟩ : ∃ s, s = str (dat cc) := ⟨_, rfl⟩
                have HSc := Lib.hid hSc
                have hnow : (DD.now { f with more := f.more ++ [(at_, dat cc)] }) = put f.now at_ (dat cc) := play_snoc _ _ _
                have hrd : DD.read { f with more := f.more ++ [(at_, dat cc)] } (at_ : Int) = (dat cc, 0) := by
                  rw [read_now (d := { f with more := f.more ++ [(at_, dat cc)] }) S10.out.on (by show at_ < f.n; rw [S10.out.n]; exact ha20), hnow, put, look_set_same _ _ _ hldn]
                  rfl
                have HRD := Lib.hid hrd
                have hsta := stay_app f.more (at_, dat cc) bs
                rw [S10.out.more] at hsta
                have HSTA := Lib.hid hsta
                clear hat hldn hld hdl hwr hSc hnow hrd hsta
                go_wp2_with fail
                refine (data_any cc _).mono ?_
                rintro e W11 ⟨rfl, b11⟩
                rw [← HSc.out]
                have I11 := Lib.hid (I10.out.below b11)
                have B11 := Lib.hid (below_step B10.out b11)
                have K11 := Lib.hid (K10.out.of_block (b11.block b K10.out.lt))
                clear b11 hcell1 hcell2
                go_wp2_with fail
                refine (write_g I11.out (gw K11.out.lt B11.out) (by rw [HMO.out]; omega) (by decide) (at_ : Int) Sc (dat cc) (by rw [HSc.out, bl_str]) 0 _ (by rw [HWR.out]) (by rw [HWR.out])).mono ?_
                rintro e W12 ⟨rfl, i12, b12⟩
                have I12 := Lib.hid i12
                have B12 := Lib.hid (B11.out.trans (b12.below (B := w.heap.size) (fun j hj => hj.1) B11.out.size))
                have K12 := Lib.hid (K11.out.of_block (b12.block b K11.out.lt (fun h => h.2 rfl)))
                clear i12 b12 I11 B11 K11
                go_wp2_with fail
                refine (read_g I12.out (at_ : Int) (dat cc) Sc HSc.out.symm 0 HRD.out).mono ?_
                rintro e W13 ⟨rfl, i13, b13⟩
                have I13 := Lib.hid i13
                have B13 := Lib.hid (below_step B12.out b13)
                have K13 := Lib.hid (K12.out.of_block (b13.block b K12.out.lt))
                have hcell2 : W13.cell? ⟨bb, bo + m * 2 + 1, none⟩ = some (.int .u8 (cl : Int)) := (B13.out.cell (p := ⟨bb, bo + m * 2 + 1, none⟩) hbb).trans HC2.out
                have hbw13 : bb < W13.heap.size := Nat.lt_of_lt_of_le hbb B13.out.size
                clear i13 b13 I12 B12 K12
                go_wp2_with fail
                refine (data_any cc _).mono ?_
                rintro e W14 ⟨rfl, b14⟩
                rw [← HSc.out]
                have I14 := Lib.hid (I13.out.below b14)
                have B14 := Lib.hid (below_step B13.out b14)
                have K14 := Lib.hid (K13.out.of_block (b14.block b K13.out.lt))
                have hcell3 : W14.cell? ⟨bb, bo + m * 2 + 1, none⟩ = some (.int .u8 (cl : Int)) := (B14.out.cell (p := ⟨bb, bo + m * 2 + 1, none⟩) hbb).trans HC2.out
                have hbw14 : bb < W14.heap.size := Nat.lt_of_lt_of_le hbb B14.out.size
                clear b14 hcell2
                by_cases hbl : m < bs.length
                case' pos =>
                  obtain ⟨kb, ko, rfl, hkb_, hck⟩ := HBs.out W14 B14.out m hbl
                  have hgk : bs[m]?.getD false = bs[m] := by rw [List.getElem?_eq_getElem hbl]; rfl
                  cases hbv : bs[m]
                  case' true =>
                    rw [hbv] at hck hgk
                    have HGK := Lib.hid hgk
                    clear hbv hgk
                    go_wp2_with fail
                    refine (data_any cc _).mono ?_
                    rintro e W15 ⟨rfl, b15⟩
                    rw [← HSc.out]
                    have I15 := Lib.hid (I14.out.below b15)
                    have B15 := Lib.hid (below_step B14.out b15)
                    have hK15 : Blk W15 b _ _ := K14.out.of_block (b15.block b K14.out.lt)
                    have K15 := Lib.hid hK15
                    obtain ⟨u, hu⟩ := vals_some (cont (play B0 (stay f.more bs))) at_ (by rw [cont_length]; exact HLD.out)
                    have hcellw : W15.cell? ⟨b, at_, none⟩ = some u := (hK15.cell at_).trans hu
                    have hfz := hK15.frozen at_
                    clear b15 hK15 hu hcell3
                    go_wp2_with fail
                    go_roundw
                    case' rel =>
                      refine ⟨m + 1, _, by omega, by omega, by go_num, I15.out.but ((But.refl (fun j => j = b) W15).setCell _ _ (.inl rfl)) (fun j hj => hj.2), ⟨S10.out.on, S10.out.fuse, S10.out.n, S10.out.room, S10.out.base, by simp [HMO.out]⟩, ?_, B15.out.setCell HBB.out _⟩
                      rw [HSTA.out, HGK.out, if_pos rfl, play_snoc, cont_put, ← vals_set, ← HSc.out]
                      exact K15.out.set_ at_ _
                    case' measure => simp [intOf]; omega
                  case' false =>
                    rw [hbv] at hck hgk
                    have HGK := Lib.hid hgk
                    clear hbv hgk
                    go_wp2_with fail
                    go_roundw
                    case' rel =>
                      refine ⟨m + 1, _, by omega, by omega, by go_num, I14.out, ⟨S10.out.on, S10.out.fuse, S10.out.n, S10.out.room, S10.out.base, by simp [HMO.out]⟩, ?_, B14.out⟩
                      rw [HSTA.out, HGK.out, if_neg (by simp), List.append_nil]
                      exact K14.out
                    case' measure => simp [intOf]; omega
                case' neg =>
                  have hgk : bs[m]?.getD false = false := by rw [List.getElem?_eq_none (by omega)]; rfl
                  have HGK := Lib.hid hgk
                  clear hgk
                  go_wp2_with fail
                  go_roundw
                  case' rel =>
                    refine ⟨m + 1, _, by omega, by omega, by go_num, I14.out, ⟨S10.out.on, S10.out.fuse, S10.out.n, S10.out.room, S10.out.base, by simp [HMO.out]⟩, ?_, B14.out⟩
                    rw [HSTA.out, HGK.out, if_neg (by simp), List.append_nil]
                    exact K14.out
                  case' measure => simp [intOf]; omega
              case' neg =>
                by_cases hlt' : m < ys.length
                case' pos => have hm5 : ¬ m < 50 := fun h => hin ⟨hlt', h⟩
                all_goals
                  clear hin
                  obtain ⟨f9, hf9⟩ : ∃ f9, f9 = f.off.wake bs := ⟨_, rfl⟩
                  have hw9 : f9 = { f.off with base := play B0 (stay f.more bs), more := [], on := true } := by
                    rw [hf9, ← S10.out.base]
                    rfl
                  have hn9 : f9.n = 20 := by rw [hw9]; show (play B0 (stay f.more bs)).length = 20; rw [play_length, HB0l.out]
                  have hnow9 : f9.now = play B0 (stay f.more bs) := by rw [hw9]; rfl
                  have hon9 : f9.on = true := by rw [hw9]
                  have HF9 := Lib.hid hf9
                  have HN9 := Lib.hid hn9
                  have HNOW9 := Lib.hid hnow9
                  have HON9 := Lib.hid hon9
                  clear hf9 hw9 hn9 hnow9 hon9
                  go_wp2_with fail
                  refine (off_g I10.out (gw K10.out.lt B10.out) f.off rfl).mono ?_
                  rintro e W11 ⟨rfl, i11, b11⟩
                  have I11 := Lib.hid i11
                  have B11 := Lib.hid (B10.out.trans (b11.below (B := w.heap.size) (fun j hj => hj.1) B10.out.size))
                  have K11 := Lib.hid (K10.out.of_block (b11.block b K10.out.lt (fun h => h.2 rfl)))
                  clear i11 b11
                  go_wp2_with fail
                  refine (wake_g I11.out (gw K11.out.lt B11.out) (by decide) A2 bs.length c2 bs rfl (HBs.out W11 B11.out) (fun b' o' hA hlb hG => ?_) f9 HF9.out.symm).mono ?_
                  case' refine_1 =>
                    obtain ⟨b2, o2, h1, h2, _⟩ := HKs.out 0 hlb
                    rw [hA] at h1
                    simp only [Option.some.injEq, Addr.mk.injEq, and_true] at h1
                    have := hG.1
                    omega
                  rintro e W12 ⟨rfl, i12, b12⟩
                  have I12 := Lib.hid i12
                  have B12 := Lib.hid (B11.out.trans (b12.below (B := w.heap.size) (fun j hj => hj.1) B11.out.size))
                  have hK12 : Blk W12 b _ _ := K11.out.of_block (b12.block b K11.out.lt (fun h => h.2 rfl))
                  rw [← HNOW9.out] at hK12
                  have K12 := Lib.hid hK12
                  clear i12 b12 I11 B11 K11 hK12 I10 B10 K10
                  go_wp2_with fail
                  go_loopw [16] (fun i wv => ∃ j : Nat, j ≤ 20 ∧ i = .int .i64 (j : Int) ∧ InG 200 wv (GW w b) p f9 ∧ Blk wv b 9 (vals (cont f9.now)).toArray ∧ Below w.heap.size w wv) (fun i _ => 20 - (intOf i).toNat)
                  case' atStart => exact ⟨0, by omega, rfl, I12.out, K12.out, B12.out⟩
                  case' round =>
                    obtain ⟨j, hj, rfl, hi, hkb, hB⟩ := hrel
                    have I13 := Lib.hid hi
                    have K13 := Lib.hid hkb
                    have B13 := Lib.hid hB
                    clear hi hkb hB I12 K12 B12
                    by_cases hlj : j < 20
                    case' pos =>
                      have hrd := read_now (d := f9) (k := j) HON9.out (by rw [HN9.out]; exact hlj)
                      have hvg := vals_get (cont f9.now) j _ (cont_get f9.now j (by rw [f9.now_length, HN9.out]; exact hlj))
                      generalize (look f9.now (j : Int)).getD zz = vj at *
                      obtain ⟨Sj, hSj⟩ : ∃ s, s = str vj := ⟨_, rfl⟩
                      rw [← hSj] at hvg
                      have HRD := Lib.hid hrd
                      have HVG := Lib.hid hvg
                      have HSJ := Lib.hid hSj
                      clear hrd hvg hSj
                      go_wp2_with fail
                      refine (read_g I13.out (j : Int) vj Sj HSJ.out.symm 0 HRD.out).mono ?_
                      rintro e W14 ⟨rfl, i14, b14⟩
                      have I14 := Lib.hid i14
                      have B14 := Lib.hid (below_step B13.out b14)
                      have hK14 : Blk W14 b _ _ := K13.out.of_block (b14.block b K13.out.lt)
                      have K14 := Lib.hid hK14
                      have hcellw : W14.cell? ⟨b, j, none⟩ = some (.string Sj) := (hK14.cell j).trans HVG.out
                      clear i14 b14 hK14
                      go_wp2_with fail
                      go_roundw
                      case' rel => exact ⟨j + 1, by omega, by go_num, I14.out, K14.out, B14.out⟩
                      case' measure => simp [intOf]; omega
                    case' neg =>
                      go_wp2_with fail
                      refine (on_g I13.out true HON9.out).mono ?_
                      rintro e w15 ⟨rfl, rfl⟩
                      go_wp2_with fail
                      go_ret
                      exact ⟨rfl, B13.out⟩
end Go.Proofs.Ytmacnghnjnkopaa.dk
