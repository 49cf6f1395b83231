/- The walk of WireBack: what is put one behind the other is read back just so. -/
import Derived.Test.YtijjpnpjdnddoaaWorks
import Derived.Test.YtijjpnpjdnddoaaSeg
import Derived.Deep.DeepCutAuto
import Derived.Deep.RegionHeld3
import Derived.Deep.QuietTactic
import Derived.BigQuiet
namespace Go.Proofs.Ytijjpnpjdnddoaa
open Go.RowKit

def NumsAt (w : World) (a : Option Addr) (zs : List Nat) : Prop :=
  ∀ i (h : i < zs.length), zs[i] < 18446744073709551616 ∧ ∃ b o, a = some ⟨b, o, none⟩ ∧ b < w.heap.size ∧ w.cell? ⟨b, o + i, none⟩ = some (.int .u64 (zs[i] : Int))
def TextsAt (w : World) (a : Option Addr) (ts : List ByteArray) : Prop :=
  ∀ i (h : i < ts.length), ts[i].size ≤ 9223372036854775807 ∧ ∃ b o, a = some ⟨b, o, none⟩ ∧ b < w.heap.size ∧ w.cell? ⟨b, o + i, none⟩ = some (.string ts[i])

theorem slice_cut (T E : TypeId) (hT : Try.prog.underlying T = some (.slice E)) (hE : ∀ w, (Go.sizeOf E).run Try.prog w = .ok 1 w) (a : Option Addr) (len cap : Nat) (k : Int) (h0 : 0 ≤ k) (hk : k.toNat ≤ cap) (w : World) :
    (Instr.slice T (.slice a len cap) none (some (.int .i64 k)) none).run Try.prog w = .ok (.slice a k.toNat cap) w := by
  have h1 : k ≤ (cap : Int) := by omega
  have he : Try.prog.elem T = E := by simp [Program.elem, hT]
  have hT' : Try.prog.underlying T = some (.slice (Try.prog.elem T)) := by rw [he]; exact hT
  have ha : a.map (·.add 0) = a := by cases a <;> simp [Addr.add]
  rw [run_slice_any (P := Try.prog) w T a len cap hT', he]
  simp [Instr.sliceBounds, run_sliceBound, h0, h1, hE, sliced, ha, Result.andThen]

def BackRel (w : World) (zs : List Nat) (ts : List ByteArray) (s i : Value) (wr : World) : Prop :=
  ∃ (k : Nat) (L : List UInt8), k ≤ max zs.length ts.length ∧ i = .int .i64 (k : Int) ∧ s = .string (str L) ∧
    L ++ seg zs ts k (max zs.length ts.length - k) = seg zs ts 0 (max zs.length ts.length) ∧ Below w.heap.size w wr

theorem grown_cell {w w' : World} {b c o : Nat} (hg : w.grownBy w' (some c)) (hlt : b < w.heap.size) (hne : b ≠ c) : w'.cell? ⟨b, o, none⟩ = w.cell? ⟨b, o, none⟩ :=
  World.cell?_of_block (w := w) (hg.block b hlt (by simpa using hne))

theorem text_cut (b : Nat) (l : List UInt8) (t : ByteArray) (r : List UInt8) (w : World) (h : RdAt b l false w) (hr : rdText l = some (bl (cutB t), r)) :
    Calls Try.prog 16 #[.pointer (some ⟨b, 0, none⟩)] w fun e w' => e = .returned (.string (t.extract 0 (min (t.size : Int) 100).toNat)) ∧ RdAt b r false w' ∧ w.grownBy w' (some b) :=
  (text_is b l (bl (cutB t)) r w h hr).mono fun e w' ⟨he, hh⟩ => ⟨by rw [he, str_bl]; rfl, hh⟩

def LoopRel (w : World) (zs : List Nat) (ts : List ByteArray) (x : Nat) (i : Value) (wr : World) : Prop :=
  ∃ k : Nat, k ≤ max zs.length ts.length ∧ i = .int .i64 (k : Int) ∧ RdAt x (seg zs ts k (max zs.length ts.length - k)) false wr ∧ Below w.heap.size w wr

set_option maxRecDepth 100000 in
set_option maxHeartbeats 1600000 in
theorem back_walk (a0 a1 : Option Addr) (l0 l1 c0 c1 : Nat) (zs : List Nat) (ts : List ByteArray) (w : World)
    (hl0 : l0 ≤ c0) (hl1 : l1 ≤ c1) (_hc0 : c0 ≤ 9223372036854775807) (_hc1 : c1 ≤ 9223372036854775807)
    (hz : zs.length = (min (l0 : Int) 30).toNat) (ht : ts.length = (min (l1 : Int) 30).toNat) (hN : NumsAt w a0 zs) (hT : TextsAt w a1 ts) :
    Calls Try.prog 5 #[.slice a0 l0 c0, .slice a1 l1 c1] w (okTrue w) := by
  have hs0 := slice_cut 36 22 Try.underlying36 Try.sizeOf22 a0 l0 c0 (min (l0 : Int) 30) (by omega) (by omega) w
  have hs1 := slice_cut 37 9 Try.underlying37 Try.sizeOf9 a1 l1 c1 (min (l1 : Int) 30) (by omega) (by omega) w
  rw [← hz] at hs0
  rw [← ht] at hs1
  have hzl : zs.length ≤ 30 := by omega
  have htl : ts.length ≤ 30 := by omega
  have HN := Lib.hid hN
  have HT := Lib.hid hT
  have hsl := seg_len zs ts (max zs.length ts.length) 0
  have hM : max zs.length ts.length ≤ 30 := by omega
  clear hz ht hN hT
  go_enter Try.func5, Try.ntmps5
  go_wp2_with fail
  clear hs0 hs1
  go_loopw [5, 6] (fun s i wr => BackRel w zs ts s i wr) (fun _ i _ => max zs.length ts.length - (intOf i).toNat)
  case atStart => exact ⟨0, [], Nat.zero_le _, rfl, rfl, rfl, Below.refl _ _⟩
  case round =>
    obtain ⟨k, L, hk, rfl, rfl, hL, hB⟩ := hrel
    have HL := Lib.hid hL
    have hLl : L.length ≤ 3540 := by have := congrArg List.length hL; simp at this; omega
    clear hL
    by_cases hkM : k < max zs.length ts.length
    · by_cases hkn : k < zs.length
      · obtain ⟨hb64, b0, o0, rfl, hb0, hcell0⟩ := HN.out k hkn
        have hcell : wr.cell? ⟨b0, o0 + k, none⟩ = some (.int .u64 (zs[k] : Int)) := by rw [hB.cell (p := ⟨b0, o0 + k, none⟩) hb0]; exact hcell0
        have hnp := Lib.hid (np_yes zs k hkn)
        clear hcell0
        have hss := str_size L
        have Hss := Lib.hid hss
        have hss' : (str L).size ≤ 3540 := by omega
        clear hss
        go_wp2_with (go_at_call 8; refine (putNum_nat (str L) zs[k] _ hb64 (by omega)).mono ?_)
        rintro e W1 ⟨rfl, b1⟩
        rw [bl_str, ← hnp.out]
        have hB1 := below_step hB b1
        have HL2 : Hid (L ++ np zs k = L ++ np zs k) := rfl
        clear hB b1 hcell HL2
        by_cases hkm : k < ts.length
        · obtain ⟨hts, b2, o2, rfl, hb2, hcell2⟩ := HT.out k hkm
          have hcell : W1.cell? ⟨b2, o2 + k, none⟩ = some (.string ts[k]) := by rw [hB1.cell (p := ⟨b2, o2 + k, none⟩) hb2]; exact hcell2
          clear hcell2
          have htp := Lib.hid (tp_yes ts k hkm)
          have hsz2 : (str (L ++ np zs k)).size ≤ 4000 := by rw [str_size, hnp.out]; have := numB_le zs[k]; simp; omega
          have hcs := cutB_size ts[k]
          have hbw : b2 < W1.heap.size := Nat.lt_of_lt_of_le hb2 hB1.size
          have ho2 : (k : Int) < (ts.length : Int) := by omega
          go_wp2
          have hm0 : (0 : Int) ≤ min (ts[k].size : Int) 100 := by omega
          have hm1 : min (ts[k].size : Int) 100 ≤ (ts[k].size : Int) := by omega
          go_region_held3 (fun w' => w'.cell? ⟨b2, o2 + k, none⟩ = some (.string ts[k])) (first | go_keep | (rw [hbt.cell (by simp; omega)]; assumption)) (first | (go_at_call 10; refine (putText_any (str (L ++ np zs k)) (cutB ts[k]) _ (by omega) (by omega)).mono ?_; rintro e W2 ⟨rfl, hbt⟩))
          clear hm0 hm1
          rw [bl_str, ← htp.out, List.append_assoc]
          have hB2 := below_step hB1.drew hbt
          have Hend := Lib.hid (back_step zs ts k _ L _ hkM HL.out)
          clear hB1 hbt
          go_wp2
          go_roundw
          case rel => exact ⟨k + 1, _, by omega, by go_num, rfl, Hend.out, hB2⟩
          case measure => simp [intOf]; omega
        · have hend := back_step zs ts k _ L _ hkM HL.out
          rw [tp_no ts k hkm, List.append_nil] at hend
          have Hend := Lib.hid hend
          clear hend
          go_wp2
          go_roundw
          case rel => exact ⟨k + 1, _, by omega, by go_num, rfl, Hend.out, hB1⟩
          case measure => simp [intOf]; omega
      · have hkm : k < ts.length := by omega
        obtain ⟨hts, b2, o2, rfl, hb2, hcell2⟩ := HT.out k hkm
        have hcell : wr.cell? ⟨b2, o2 + k, none⟩ = some (.string ts[k]) := by rw [hB.cell (p := ⟨b2, o2 + k, none⟩) hb2]; exact hcell2
        clear hcell2
        have htp := Lib.hid (tp_yes ts k hkm)
        have hsz2 : (str L).size ≤ 4000 := by rw [str_size]; omega
        have hcs := cutB_size ts[k]
        have hbw : b2 < wr.heap.size := Nat.lt_of_lt_of_le hb2 hB.size
        have ho2 : (k : Int) < (ts.length : Int) := by omega
        have hend := back_step zs ts k _ L _ hkM HL.out
        rw [np_no zs k hkn, List.nil_append] at hend
        have Hend := Lib.hid hend
        clear hend
        go_wp2
        have hm0 : (0 : Int) ≤ min (ts[k].size : Int) 100 := by omega
        have hm1 : min (ts[k].size : Int) 100 ≤ (ts[k].size : Int) := by omega
        go_region_held3 (fun w' => w'.cell? ⟨b2, o2 + k, none⟩ = some (.string ts[k])) (first | go_keep | (rw [hbt.cell (by simp; omega)]; assumption)) (first | (go_at_call 10; refine (putText_any (str L) (cutB ts[k]) _ (by omega) (by omega)).mono ?_; rintro e W2 ⟨rfl, hbt⟩))
        clear hm0 hm1
        rw [bl_str, ← htp.out]
        have hB2 := below_step hB.drew hbt
        clear hB hbt
        go_wp2
        go_roundw
        case rel => exact ⟨k + 1, _, by omega, by go_num, rfl, Hend.out, hB2⟩
        case measure => simp [intOf]; omega
    · have hkN : k = max zs.length ts.length := by omega
      have hLT : L = seg zs ts 0 (max zs.length ts.length) := by
        have := HL.out
        rw [hkN, seg_end, List.append_nil] at this
        exact this
      have hsz : (str L).size ≤ 3540 := by rw [str_size]; exact hLl
      have HLT := Lib.hid hLT
      have Hss := Lib.hid (str_size L)
      have hE : (L.isEmpty == (((str L).size : Int) == 0)) = true := by
        rw [str_size]
        cases L with
        | nil => rfl
        | cons y q => simp; omega
      clear hkN hLT
      go_wp2_with (go_at_call 13; refine (new_any (str L) _ (by omega)).mono ?_)
      rintro e W3 ⟨x, rfl, hx, hr, b3⟩
      rw [bl_str] at hr
      have hB3 := below_step hB b3
      have hxw : w.heap.size ≤ x := Nat.le_trans hB.size hx
      clear hB b3 hx
      go_wp2_with (go_at_call 20; refine (end_good x L _ hr).mono ?_; rintro e w' ⟨rfl, rfl⟩)
      go_wp2
      clear hE
      have hr0 : RdAt x (seg zs ts 0 (max zs.length ts.length)) false W3 := by rw [← HLT.out]; exact hr
      clear hr
      go_loopw [8] (fun i wr => LoopRel w zs ts x i wr) (fun i _ => max zs.length ts.length - (intOf i).toNat)
      case atStart => exact ⟨0, Nat.zero_le _, rfl, hr0, hB3⟩
      case round =>
        clear hr0 hB3
        obtain ⟨k2, hk2, rfl, hr, hB⟩ := hrel
        by_cases hkM2 : k2 < max zs.length ts.length
        · by_cases hkn : k2 < zs.length
          · obtain ⟨hb64, b0, o0, rfl, hb0, hcell0⟩ := HN.out k2 hkn
            have hcell : wr.cell? ⟨b0, o0 + k2, none⟩ = some (.int .u64 (zs[k2] : Int)) := by rw [hB.cell (p := ⟨b0, o0 + k2, none⟩) hb0]; exact hcell0
            have hrn := seg_num zs ts k2 _ hkM2 hkn hb64
            have Hrn := Lib.hid hrn
            have hd : decide (k2 < zs.length) = true := by simp [hkn]
            have hi0 : (k2 : Int) < (zs.length : Int) := by omega
            have hbx : b0 ≠ x := by omega
            have hbw : b0 < wr.heap.size := Nat.lt_of_lt_of_le hb0 hB.size
            have Hcell0 := Lib.hid hcell0
            clear hcell0 hrn
            go_wp2
            go_region_held3 (fun w' => w'.cell? ⟨b0, o0 + k2, none⟩ = some (.int .u64 (zs[k2] : Int))) (first | go_keep | (rw [grown_cell hg4 (by simp; omega) hbx]; assumption)) (first | (go_at_call 14; refine (num_is x _ zs[k2] _ _ (by exact hr) Hrn.out).mono ?_; rintro e W4 ⟨rfl, hr4, hg4⟩))
            have hB4 := grown_below hB.drew hxw hg4
            clear hB hg4 hr hcell hd hbw
            by_cases hkm : k2 < ts.length
            · obtain ⟨hts, b2, o2, rfl, hb2, hcell2⟩ := HT.out k2 hkm
              have hcell : W4.cell? ⟨b2, o2 + k2, none⟩ = some (.string ts[k2]) := by rw [hB4.cell (p := ⟨b2, o2 + k2, none⟩) hb2]; exact hcell2
              clear hcell2
              have hrt := seg_text ts k2 (seg zs ts (k2 + 1) (max zs.length ts.length - (k2 + 1))) hkm
              have Hrt := Lib.hid hrt
              have hd : decide (k2 < ts.length) = true := by simp [hkm]
              have hi0 : (k2 : Int) < (ts.length : Int) := by omega
              have hbx : b2 ≠ x := by omega
              have hbw : b2 < W4.heap.size := Nat.lt_of_lt_of_le hb2 hB4.size
              have hm0 : (0 : Int) ≤ min (ts[k2].size : Int) 100 := by omega
              have hm1 : min (ts[k2].size : Int) 100 ≤ (ts[k2].size : Int) := by omega
              clear hrt
              go_wp2
              go_region_held3 (fun w' => w'.cell? ⟨b2, o2 + k2, none⟩ = some (.string ts[k2])) (first | go_keep | (rw [grown_cell hg5 (by simp; omega) hbx]; assumption)) (first | (go_at_call 16; refine (text_cut x _ ts[k2] _ _ (by exact hr4) Hrt.out).mono ?_; rintro e W5 ⟨rfl, hr5, hg5⟩))
              all_goals
                have hB5 := grown_below hB4.drew hxw hg5
                clear hB4 hg5 hm0 hm1 hcell hd
                go_wp2
                go_roundw
                case rel => exact ⟨k2 + 1, by omega, by go_num, hr5, hB5⟩
                case measure => simp [intOf]; omega
            · have hd : decide (k2 < ts.length) = false := by simp [hkm]
              rw [tp_no ts k2 hkm, List.nil_append] at hr4
              go_wp2
              go_quiet (fail)
              go_wp2
              go_roundw
              case rel => exact ⟨k2 + 1, by omega, by go_num, hr4, below_drewN hB4 _⟩
              case measure => simp [intOf]; omega
          · have hkm : k2 < ts.length := by omega
            have hd0 : decide (k2 < zs.length) = false := by simp [hkn]
            rw [seg_step zs ts k2 _ hkM2, np_no zs k2 hkn, List.nil_append] at hr
            go_wp2
            go_quiet (fail)
            have hB4 := below_drewN hB nq
            have hr4 : RdAt x (tp ts k2 ++ seg zs ts (k2 + 1) (max zs.length ts.length - (k2 + 1))) false (wr.drewN nq) := hr
            generalize wr.drewN nq = W4 at *
            clear hB hr hd0
            obtain ⟨hts, b2, o2, rfl, hb2, hcell2⟩ := HT.out k2 hkm
            have hcell : W4.cell? ⟨b2, o2 + k2, none⟩ = some (.string ts[k2]) := by rw [hB4.cell (p := ⟨b2, o2 + k2, none⟩) hb2]; exact hcell2
            clear hcell2
            have hrt := seg_text ts k2 (seg zs ts (k2 + 1) (max zs.length ts.length - (k2 + 1))) hkm
            have Hrt := Lib.hid hrt
            have hd : decide (k2 < ts.length) = true := by simp [hkm]
            have hi0 : (k2 : Int) < (ts.length : Int) := by omega
            have hbx : b2 ≠ x := by omega
            have hbw : b2 < W4.heap.size := Nat.lt_of_lt_of_le hb2 hB4.size
            have hm0 : (0 : Int) ≤ min (ts[k2].size : Int) 100 := by omega
            have hm1 : min (ts[k2].size : Int) 100 ≤ (ts[k2].size : Int) := by omega
            clear hrt
            go_wp2
            go_region_held3 (fun w' => w'.cell? ⟨b2, o2 + k2, none⟩ = some (.string ts[k2])) (first | go_keep | (rw [grown_cell hg5 (by simp; omega) hbx]; assumption)) (first | (go_at_call 16; refine (text_cut x _ ts[k2] _ _ (by exact hr4) Hrt.out).mono ?_; rintro e W5 ⟨rfl, hr5, hg5⟩))
            all_goals
              have hB5 := grown_below hB4.drew hxw hg5
              clear hB4 hg5 hm0 hm1 hcell hd
              go_wp2
              go_roundw
              case rel => exact ⟨k2 + 1, by omega, by go_num, hr5, hB5⟩
              case measure => simp [intOf]; omega
        · have hkN : k2 = max zs.length ts.length := by omega
          have hr4 : RdAt x [] false wr := by
            rw [hkN, seg_end] at hr
            exact hr
          clear hkN hr
          go_wp2_with (go_at_call 20; refine (end_good x [] _ hr4).mono ?_; rintro e w' ⟨rfl, rfl⟩)
          go_wp2_with (go_at_call 18; refine (ok_yes x [] _ hr4).mono ?_; rintro e w' ⟨rfl, rfl⟩)
          go_wp2_with (go_at_call 12; refine (works_any _).mono ?_)
          rintro e V6 ⟨rfl, b6⟩
          have b7 := below_step hB b6
          go_wp2
          go_ret
          exact ⟨rfl, b7⟩

end Go.Proofs.Ytijjpnpjdnddoaa
