/- The walk of FrameKnown. -/
import Derived.Test.YtpjjmaknajjimaaDoorFK
import Derived.Test.YtpjjmaknajjimaaDoorFWorks
import Derived.BigQuiet
namespace Go.Proofs.YtpjjmaknajjimaaDoor
open Go.RowKit

theorem owns_first {w : World} {B : Nat} {v : Value} {p : List UInt8} (h : OwnsStrs w B v [p]) : ∃ g c, v = .slice (some ⟨g, 0, none⟩) 1 c ∧ B ≤ g ∧ g < w.heap.size ∧ w.cell? ⟨g, 0, none⟩ = some (.string (str p)) := by
  obtain ⟨g, c, hv, h1, h2, _, h3⟩ := owns_strs h (by simp)
  obtain ⟨b, o, he, _, hc⟩ := h3 0 (by simp)
  simp only [Option.some.injEq, Addr.mk.injEq, and_true] at he
  obtain ⟨rfl, rfl⟩ := he
  exact ⟨g, c, hv, h1, h2, hc⟩

def longZ (n : Nat) : ByteArray := str (List.replicate n 0)
theorem longZ_size (n : Nat) : (longZ n).size = n := by unfold longZ; rw [str_size, List.length_replicate]

theorem mk_longZ (n : Nat) (hn : n ≤ 1000000) : ∃ zc : Array Value,
    (∀ w : World, (Instr.makeSlice 33 (.int .i64 (n : Int)) (.int .i64 (n : Int))).run Tryd.prog w = .ok (.slice (some ⟨w.heap.size, 0, none⟩) n n) (w.alloc (.cells zc 5))) ∧
    (∀ w : World, (convert 33 9 (.slice (some ⟨w.heap.size, 0, none⟩) n n)).run Tryd.prog (w.alloc (.cells zc 5)) = .ok (.string (longZ n)) (w.alloc (.cells zc 5))) := mk_zeros n hn

def KnownRel (w : World) (i : Value) (wr : World) : Prop := ∃ k : Nat, k ≤ 10 ∧ i = .int .i64 (k : Int) ∧ Below w.heap.size w wr

theorem nine_eq : ((str Bb).toList == ((⟨#[0, 9, 203, 244, 57, 38, 49, 50, 51, 52, 53, 54, 55, 56, 57]⟩ : ByteArray) ++ (str zz).extract 15 32).toList) = true := by decide +kernel

set_option maxRecDepth 100000 in
set_option maxHeartbeats 3200000 in
theorem frameKnown_walk (w : World) (ht : CTab w) : Calls Tryd.prog 7 #[] w (okTrue w) := by
  have HT := Lib.hid ht
  have hg := ht.1
  clear ht
  have hpE := Lib.hid (pack_named ⟨#[]⟩ [zz] (by decide) secs_none.symm)
  have hpN := Lib.hid (pack_named nine [Bb] (by decide) secs_nine.symm)
  have huE := Lib.hid (unpack_named ⟨#[]⟩ [zz] (by decide) secs_none.symm)
  have huN := Lib.hid (unpack_named nine [Bb] (by decide) secs_nine.symm)
  obtain ⟨zc, hmk0, hcv0⟩ := mk_zeros 32 (by decide)
  have hmk : ∀ w : World, (Instr.makeSlice 33 (.int .i64 32) (.int .i64 32)).run Tryd.prog w = .ok (.slice (some ⟨w.heap.size, 0, none⟩) 32 32) (w.alloc (.cells zc 5)) := hmk0
  have hcv : ∀ w : World, (convert 33 9 (.slice (some ⟨w.heap.size, 0, none⟩) 32 32)).run Tryd.prog (w.alloc (.cells zc 5)) = .ok (.string (str zz)) (w.alloc (.cells zc 5)) := hcv0
  have hzs : (str zz).size = 32 := rfl
  have hqn := nine_eq
  have Hbs : Hid ((str Bb).size = 32) := Lib.hid rfl
  have Hzz : Hid (zz.length = 32) := Lib.hid rfl
  have HBb : Hid (Bb.length = 32) := Lib.hid rfl
  clear hmk0 hcv0
  unfold nine at *
  go_enter Tryd.func7, Tryd.ntmps7
  go_wp2_with (go_at_call 8; refine (hpE.out _ HT.out).mono ?_)
  rintro e W1 ⟨va, rfl, hownA, b1⟩
  have h1 := Lib.hid (HT.out.below b1 hg)
  go_wp2_with (go_at_call 8; refine (hpN.out _ h1.out).mono ?_)
  rintro e W2 ⟨vb, rfl, hownB, b2⟩
  have b12 := below_step b1 b2
  have hownA2 := owns_kept hownA b2
  have bz := (Below.refl W2.heap.size W2).alloc (Nat.le_refl _) (.cells zc 5)
  have hownA3 := owns_kept hownA2 bz
  have hownB3 := owns_kept hownB bz
  have b13 := below_step b12 bz
  obtain ⟨ga, ca, rfl, _, hga, hcA⟩ := owns_first hownA3
  obtain ⟨gb, cb, rfl, _, hgb, hcB⟩ := owns_first hownB3
  have HownA := Lib.hid hownA3
  have HownB := Lib.hid hownB3
  have h3 := Lib.hid (HT.out.below b13 hg)
  clear hownA hownB hownA2 hownA3 hownB3 bz b1 b2 b12 h1 hpE hpN
  generalize hZ : str zz = Z at *
  generalize hB : str Bb = Bs at *
  have HZ := Lib.hid hZ
  have HB := Lib.hid hB
  clear hZ hB
  go_wp2_with fail
  go_quiet (fail)
  have b14 := below_drewN b13 nq
  have HownA4 := Lib.hid (owns_kept HownA.out (below_drewN (Below.refl _ _) nq))
  have HownB4 := Lib.hid (owns_kept HownB.out (below_drewN (Below.refl _ _) nq))
  have h4 := Lib.hid (HT.out.below b14 hg)
  have hga4 : ga < ((W2.alloc (.cells zc 5)).drewN nq).heap.size := hga
  have hgb4 : gb < ((W2.alloc (.cells zc 5)).drewN nq).heap.size := hgb
  have hcB4 : ((W2.alloc (.cells zc 5)).drewN nq).cell? ⟨gb, 0, none⟩ = some (.string Bs) := hcB
  clear hcA hcB hga hgb HownA HownB h3 b13 hqn
  generalize (W2.alloc (.cells zc 5)).drewN nq = W4 at *
  go_wp2_with (go_at_call 14; refine (huN.out _ _ _ HownB4.out h4.out).mono ?_)
  rintro e W5 ⟨rfl, b5⟩
  have b15 := below_step b14 b5
  have HownA5 := Lib.hid (owns_kept HownA4.out b5)
  have h5 := Lib.hid (HT.out.below b15 hg)
  have hcB5 : W5.cell? ⟨gb, 0, none⟩ = some (.string Bs) := by rw [b5.cell (p := ⟨gb, 0, none⟩) hgb4]; exact hcB4
  have hgb5 : gb < W5.heap.size := Nat.lt_of_lt_of_le hgb4 b5.size
  clear hcB4 hgb4 hga4 HownA4 HownB4 h4 b5 b14
  go_wp2_with (go_at_call 14; refine (huE.out _ _ _ HownA5.out h5.out).mono ?_)
  rintro e W6 ⟨rfl, b6⟩
  have b16 := below_step b15 b6
  have h6 := Lib.hid (HT.out.below b16 hg)
  have hcB6 : W6.cell? ⟨gb, 0, none⟩ = some (.string Bs) := by rw [b6.cell (p := ⟨gb, 0, none⟩) hgb5]; exact hcB5
  have hgb6 : gb < W6.heap.size := Nat.lt_of_lt_of_le hgb5 b6.size
  clear hcB5 hgb5 HownA5 h5 b6 b15 huE huN
  go_wp2_with fail
  have hcW : ∀ {W : World}, Below W6.heap.size W6 W → W.cell? ⟨gb, 0, none⟩ = some (.string (str Bb)) := by
    intro W hb
    rw [hb.cell (p := ⟨gb, 0, none⟩) hgb6, HB.out]
    exact hcB6
  refine wp_region_slots_r (by kernel_rfl) 51 [86, 87, 88, 89, 90, 91, 92, 93, 94, 95, 96, 97, 98, 99, 100, 101, 102, 103, 104, 105, 106, 107, 108, 109, 110, 111, 112, 113, 114, 115, 116, 117, 118, 119, 120, 121, 122, 123, 124, 125, 126, 127, 128, 129, 130, 131, 132, 133, 134, 135, 136] (by kernel_rfl) (GK (tableK (.slice (some ⟨gb, 0, none⟩) 1 cb) (.string (str zz)) (.pointer (some ⟨gb, 0, none⟩)) Bb zz)) (GK_mono _ _) ?_ ?_
  · intro i o vs ρ W hi ho hρ hb hG
    have hc := hρ.const
    have e3 : ρ (.tmp 3) = .slice (some ⟨gb, 0, none⟩) 1 cb := hρ.out 3 rfl
    have e50 : ρ (.tmp 5) = .string Z := hρ.out 5 rfl
    have e5 : ρ (.tmp 5) = .string (str zz) := by rw [e50, HZ.out]
    rcases i with _ | _ | _ | _ | _ | _ | _ | _ | _ | _ | _ | _ | _ | _ | _ | _ | _ | _ | _ | _ | _ | _ | _ | _ | _ | _ | _ | _ | _ | _ | _ | _ | _ | _ | _ | _ | _ | _ | _ | _ | _ | _ | _ | _ | _ | _ | _ | _ | _ | _ | _ | i
    all_goals (first | omega | skip)
    all_goals simp only [List.getElem?_toArray, List.getElem?_cons_zero, List.getElem?_cons_succ, Option.some.injEq] at ho
    all_goals subst ho
    · exact fk_move (.tmp 3) (.slice (some ⟨gb, 0, none⟩) 1 cb) rfl e3
    · exact fk_addr (.tmp 86) _ gb 0 cb rfl ((hρ.at_ 86 0 rfl).trans (hG 0 (by kernel_rfl))) (hc _)
    · exact fk_load (.tmp 87) gb (.string (str Bb)) rfl ((hρ.at_ 87 1 rfl).trans (hG 1 (by kernel_rfl))) (hcW hb)
    · exact fk_move (.tmp 3) (.slice (some ⟨gb, 0, none⟩) 1 cb) rfl e3
    · exact fk_addr (.tmp 89) _ gb 0 cb rfl ((hρ.at_ 89 3 rfl).trans (hG 3 (by kernel_rfl))) (hc _)
    · exact fk_load (.tmp 90) gb (.string (str Bb)) rfl ((hρ.at_ 90 4 rfl).trans (hG 4 (by kernel_rfl))) (hcW hb)
    · exact fk_two (.tmp 88) (.tmp 91) _ _ rfl ((hρ.at_ 88 2 rfl).trans (hG 2 (by kernel_rfl))) ((hρ.at_ 91 5 rfl).trans (hG 5 (by kernel_rfl)))
    · exact fk_move (.tmp 3) (.slice (some ⟨gb, 0, none⟩) 1 cb) rfl e3
    · exact fk_addr (.tmp 93) _ gb 0 cb rfl ((hρ.at_ 93 7 rfl).trans (hG 7 (by kernel_rfl))) (hc _)
    · exact fk_load (.tmp 94) gb (.string (str Bb)) rfl ((hρ.at_ 94 8 rfl).trans (hG 8 (by kernel_rfl))) (hcW hb)
    · exact fk_move (.tmp 5) (.string (str zz)) rfl e5
    · exact fk_two (.tmp 95) (.tmp 96) _ _ rfl ((hρ.at_ 95 9 rfl).trans (hG 9 (by kernel_rfl))) ((hρ.at_ 96 10 rfl).trans (hG 10 (by kernel_rfl)))
    · exact fk_move (.tmp 3) (.slice (some ⟨gb, 0, none⟩) 1 cb) rfl e3
    · exact fk_addr (.tmp 98) _ gb 0 cb rfl ((hρ.at_ 98 12 rfl).trans (hG 12 (by kernel_rfl))) (hc _)
    · exact fk_load (.tmp 99) gb (.string (str Bb)) rfl ((hρ.at_ 99 13 rfl).trans (hG 13 (by kernel_rfl))) (hcW hb)
    · exact fk_upto (.tmp 100) _ _ 31 rfl ((hρ.at_ 100 14 rfl).trans (hG 14 (by kernel_rfl))) (hc _) (by decide)
    · exact fk_one (.tmp 101) _ rfl ((hρ.at_ 101 15 rfl).trans (hG 15 (by kernel_rfl)))
    · exact fk_move (.tmp 3) (.slice (some ⟨gb, 0, none⟩) 1 cb) rfl e3
    · exact fk_addr (.tmp 103) _ gb 0 cb rfl ((hρ.at_ 103 17 rfl).trans (hG 17 (by kernel_rfl))) (hc _)
    · exact fk_load (.tmp 104) gb (.string (str Bb)) rfl ((hρ.at_ 104 18 rfl).trans (hG 18 (by kernel_rfl))) (hcW hb)
    · exact fk_cat (.tmp 105) _ _ [120] rfl ((hρ.at_ 105 19 rfl).trans (hG 19 (by kernel_rfl))) (hc _) (by decide) (by decide)
    · exact fk_one (.tmp 106) _ rfl ((hρ.at_ 106 20 rfl).trans (hG 20 (by kernel_rfl)))
    · exact fk_move (.tmp 5) (.string (str zz)) rfl e5
    · exact fk_from (.tmp 108) _ _ 2 rfl ((hρ.at_ 108 22 rfl).trans (hG 22 (by kernel_rfl))) (hc _) (by decide)
    · exact fk_cat _ (.tmp 109) [0, 9] _ rfl (hc _) ((hρ.at_ 109 23 rfl).trans (hG 23 (by kernel_rfl))) (by decide) (by decide)
    · exact fk_one (.tmp 110) _ rfl ((hρ.at_ 110 24 rfl).trans (hG 24 (by kernel_rfl)))
    · exact fk_move (.tmp 3) (.slice (some ⟨gb, 0, none⟩) 1 cb) rfl e3
    · exact fk_addr (.tmp 112) _ gb 0 cb rfl ((hρ.at_ 112 26 rfl).trans (hG 26 (by kernel_rfl))) (hc _)
    · exact fk_load (.tmp 113) gb (.string (str Bb)) rfl ((hρ.at_ 113 27 rfl).trans (hG 27 (by kernel_rfl))) (hcW hb)
    · exact fk_from (.tmp 114) _ _ 2 rfl ((hρ.at_ 114 28 rfl).trans (hG 28 (by kernel_rfl))) (hc _) (by decide)
    · exact fk_cat _ (.tmp 115) [0, 8] _ rfl (hc _) ((hρ.at_ 115 29 rfl).trans (hG 29 (by kernel_rfl))) (by decide) (by decide)
    · exact fk_one (.tmp 116) _ rfl ((hρ.at_ 116 30 rfl).trans (hG 30 (by kernel_rfl)))
    · exact fk_move (.tmp 3) (.slice (some ⟨gb, 0, none⟩) 1 cb) rfl e3
    · exact fk_addr (.tmp 118) _ gb 0 cb rfl ((hρ.at_ 118 32 rfl).trans (hG 32 (by kernel_rfl))) (hc _)
    · exact fk_load (.tmp 119) gb (.string (str Bb)) rfl ((hρ.at_ 119 33 rfl).trans (hG 33 (by kernel_rfl))) (hcW hb)
    · exact fk_from (.tmp 120) _ _ 2 rfl ((hρ.at_ 120 34 rfl).trans (hG 34 (by kernel_rfl))) (hc _) (by decide)
    · exact fk_cat _ (.tmp 121) [255, 255] _ rfl (hc _) ((hρ.at_ 121 35 rfl).trans (hG 35 (by kernel_rfl))) (by decide) (by decide)
    · exact fk_one (.tmp 122) _ rfl ((hρ.at_ 122 36 rfl).trans (hG 36 (by kernel_rfl)))
    · exact fk_move (.tmp 3) (.slice (some ⟨gb, 0, none⟩) 1 cb) rfl e3
    · exact fk_addr (.tmp 124) _ gb 0 cb rfl ((hρ.at_ 124 38 rfl).trans (hG 38 (by kernel_rfl))) (hc _)
    · exact fk_load (.tmp 125) gb (.string (str Bb)) rfl ((hρ.at_ 125 39 rfl).trans (hG 39 (by kernel_rfl))) (hcW hb)
    · exact fk_upto (.tmp 126) _ _ 31 rfl ((hρ.at_ 126 40 rfl).trans (hG 40 (by kernel_rfl))) (hc _) (by decide)
    · exact fk_cat (.tmp 127) _ _ [120] rfl ((hρ.at_ 127 41 rfl).trans (hG 41 (by kernel_rfl))) (hc _) (by decide) (by decide)
    · exact fk_one (.tmp 128) _ rfl ((hρ.at_ 128 42 rfl).trans (hG 42 (by kernel_rfl)))
    · exact fk_move (.tmp 3) (.slice (some ⟨gb, 0, none⟩) 1 cb) rfl e3
    · exact fk_addr (.tmp 130) _ gb 0 cb rfl ((hρ.at_ 130 44 rfl).trans (hG 44 (by kernel_rfl))) (hc _)
    · exact fk_load (.tmp 131) gb (.string (str Bb)) rfl ((hρ.at_ 131 45 rfl).trans (hG 45 (by kernel_rfl))) (hcW hb)
    · exact fk_two (.tmp 132) _ _ [] rfl ((hρ.at_ 132 46 rfl).trans (hG 46 (by kernel_rfl))) (hc _)
    · exact fk_ten _ (.tmp 92) (.tmp 97) (.tmp 102) (.tmp 107) (.tmp 111) (.tmp 117) (.tmp 123) (.tmp 129) (.tmp 133) (vs 6) (vs 11) (vs 16) (vs 21) (vs 25) (vs 31) (vs 37) (vs 43) (vs 47) _ _ _ _ _ _ _ _ _ rfl (hc _) (hρ.at_ 92 6 rfl) (hG 6 (by kernel_rfl)) (hρ.at_ 97 11 rfl) (hG 11 (by kernel_rfl)) (hρ.at_ 102 16 rfl) (hG 16 (by kernel_rfl)) (hρ.at_ 107 21 rfl) (hG 21 (by kernel_rfl)) (hρ.at_ 111 25 rfl) (hG 25 (by kernel_rfl)) (hρ.at_ 117 31 rfl) (hG 31 (by kernel_rfl)) (hρ.at_ 123 37 rfl) (hG 37 (by kernel_rfl)) (hρ.at_ 129 43 rfl) (hG 43 (by kernel_rfl)) (hρ.at_ 133 47 rfl) (hG 47 (by kernel_rfl))
    · exact lits_len (hρ.at_ 134 48 rfl) (hG 48 (by kernel_rfl)) rfl
    · exact fk_move _ (.int .i64 0) rfl (hc _)
  · intro vs W hb hG
    obtain ⟨b48, us, hv48, hh48, hl48, hk48⟩ : IsLits (vs 48) W (knownOf Bb zz) := hG 48 (by decide)
    have hv48' : vs 48 = .slice (some ⟨b48, 0, none⟩) 10 10 := hv48
    have h49 : vs 49 = .int .i64 10 := hG 49 (by decide)
    have h50 : vs 50 = .int .i64 0 := hG 50 (by decide)
    have b17 := below_step b16 hb
    have h7 := Lib.hid (HT.out.below b17 hg)
    have Hk48 := Lib.hid hk48
    have hus : ∀ k u, us[k]? = some u → W.cell? ⟨b48, k, none⟩ = some u := by
      intro k u hu
      rw [cell_of_row W b48 k _ _ _ hh48]
      simpa using hu
    have Hus := Lib.hid hus
    have hb48 : b48 < W.heap.size := (Array.getElem?_eq_some_iff.1 hh48).1
    clear hG hb hcW hk48 hus hh48 hv48 h6 b16 hcB6 hgb6
    simp only [putList, putSel, if_true]
    rw [hv48', h49, h50]
    go_simp
    refine ⟨by kernel_rfl, ?_⟩
    go_wp2_with fail
    clear hv48' h49 h50
    go_loopw [136] (fun i wr => KnownRel W i wr) (fun i _ => 10 - (intOf i).toNat)
    case atStart => exact ⟨0, by omega, rfl, Below.refl _ _⟩
    case round =>
      obtain ⟨k, hk, rfl, hB⟩ := hrel
      have bwr := below_step b17 hB
      have hwr := Lib.hid (HT.out.below bwr hg)
      by_cases hlt : k < 10
      · obtain ⟨u, a, c, hu, he, hs⟩ := Hk48.out k hlt
        obtain ⟨hno, hl1, hl2⟩ := known_none _ (List.getElem_mem (l := knownOf Bb zz) (n := k) hlt)
        have hcell : wr.cell? ⟨b48, k, none⟩ = some u := by rw [hB.cell (p := ⟨b48, k, none⟩) hb48]; exact Hus.out k u hu
        have hun := unpack_none a c _ wr (hs.below hB (Nat.le_refl _)) hl1 hl2 hno hwr.out
        rw [he] at hcell
        have hki : (k : Int) < 10 := by omega
        have Hun := Lib.hid hun
        clear hun hu he hs hno hl1 hl2
        generalize (knownOf Bb zz)[k] = ps at *
        go_wp2_with (go_at_call 14; refine Hun.out.mono ?_)
        rintro e W8 ⟨rfl, b8⟩
        have hB8 := below_step hB b8
        clear hB b8 bwr hcell Hun
        go_wp2
        go_roundw
        case rel => exact ⟨k + 1, by omega, by go_num, hB8⟩
        case measure => simp [intOf]; omega
      · have hk10 : k = 10 := by omega
        clear hk
        subst hk10
        obtain ⟨z8, hmk80, hcv8⟩ := mk_longZ 8192 (by decide)
        obtain ⟨z9, hmk90, hcv9⟩ := mk_longZ 8193 (by decide)
        have hmk8 : ∀ w : World, (Instr.makeSlice 33 (.int .i64 8192) (.int .i64 8192)).run Tryd.prog w = .ok (.slice (some ⟨w.heap.size, 0, none⟩) 8192 8192) (w.alloc (.cells z8 5)) := hmk80
        have hmk9 : ∀ w : World, (Instr.makeSlice 33 (.int .i64 8193) (.int .i64 8193)).run Tryd.prog w = .ok (.slice (some ⟨w.heap.size, 0, none⟩) 8193 8193) (w.alloc (.cells z9 5)) := hmk90
        have hs8 := longZ_size 8192
        have hs9 := longZ_size 8193
        obtain ⟨psL, hpsL⟩ : ∃ ps, ps = secs (bl (longZ 8192)) := ⟨_, rfl⟩
        have hlL : psL.length = 257 := by rw [hpsL, secs_length, bl_len, hs8]; rfl
        have hpL := Lib.hid (pack_named (longZ 8192) psL (by omega) hpsL)
        have huL := Lib.hid (unpack_named (longZ 8192) psL (by omega) hpsL)
        have hpLL := Lib.hid (fun W => pack_long (longZ 8193) W (by omega))
        have hz0 := Lib.hid (size_named ⟨#[]⟩ 1 (by decide) rfl)
        have hz1 := Lib.hid (size_named (Z.extract 0 26) 1 (by simp; omega) (by have : (Z.extract 0 26).size = 26 := by { simp; omega }; rw [this]; rfl))
        have hz2 := Lib.hid (size_named (Z.extract 0 27) 2 (by simp; omega) (by have : (Z.extract 0 27).size = 27 := by { simp; omega }; rw [this]; rfl))
        have hz8 := Lib.hid (size_named (longZ 8192) 257 (by omega) (by rw [hs8]; rfl))
        clear hmk80 hmk90 hpsL hs9
        generalize longZ 8192 = Z8 at *
        generalize longZ 8193 = Z9 at *
        have bw8 := below_new bwr (.cells z8 5)
        have hw8 := Lib.hid (HT.out.below bw8 hg)
        go_wp2_with (go_at_call 8; refine (hpL.out _ hw8.out).mono ?_)
        rintro e V1 ⟨vL, rfl, hownL, c1⟩
        have d1 := below_step bw8 c1
        clear bw8 c1 bwr hB
        go_wp2_with (go_at_call 8; refine (hpLL.out _).mono ?_)
        rintro e V2 ⟨rfl, c2⟩
        have d2 := below_step (below_new d1 (.cells z9 5)) c2
        have hownL1 := owns_kept hownL ((Below.refl V1.heap.size V1).alloc (Nat.le_refl _) (.cells z9 5))
        have hownL2 := owns_kept hownL1 c2
        have hv2 := Lib.hid (HT.out.below d2 hg)
        have HownL2 := Lib.hid hownL2
        clear hownL hownL1 hownL2 d1 c2
        go_wp2_with (go_at_call 14; refine (huL.out _ _ _ HownL2.out hv2.out).mono ?_)
        rintro e V3 ⟨rfl, c3⟩
        have d3 := below_step d2 c3
        obtain ⟨aL, cL, rfl, _⟩ := HownL2.out.view
        rw [hlL]
        have d4 := below_new d3 (.cells z8 5)
        have hv4 := Lib.hid (HT.out.below d4 hg)
        clear d2 c3 d3
        go_wp2_with (first | (go_at_call 11; with_reducible refine (hz0.out _).mono ?_; rintro e w' ⟨rfl, rfl⟩) | (go_at_call 11; with_reducible refine (hz1.out _).mono ?_; rintro e w' ⟨rfl, rfl⟩) | (go_at_call 11; with_reducible refine (hz2.out _).mono ?_; rintro e w' ⟨rfl, rfl⟩) | (go_at_call 11; with_reducible refine (hz8.out _).mono ?_; rintro e w' ⟨rfl, rfl⟩) | (go_at_call 13; refine (fworks_any _ hv4.out).mono ?_))
        rintro e V5 ⟨rfl, c5⟩
        have d5 := below_step d4 c5
        go_wp2
        go_ret
        exact ⟨rfl, d5⟩

end Go.Proofs.YtpjjmaknajjimaaDoor
