/- The walk of FrameBack. -/
import Derived.Test.YtpjjmaknajjimaaDoorFGB
namespace Go.Proofs.YtpjjmaknajjimaaDoor
open Go.RowKit

set_option maxRecDepth 100000 in
set_option maxHeartbeats 1600000 in
theorem back_small (a0 : ByteArray) (hx : a0.size ≤ 8192) (w : World) (ht : CTab w) :
    Calls Tryd.prog 5 #[.string a0] w (okTrue w) := by
  obtain ⟨i0, hi, hz0, hz1, hz2⟩ := info_parts Tryd.info9
  have HT := Lib.hid ht
  have hg := ht.1
  clear ht
  obtain ⟨ps, hps⟩ : ∃ ps, ps = secs (bl a0) := ⟨_, rfl⟩
  have hsl : ps.length = nsec a0.size := by rw [hps, secs_length, bl_len]
  have hpl1 : ps.length ≤ 300 := by rw [hsl]; unfold nsec; omega
  have hpl0 : 0 < ps.length := by rw [hsl]; unfold nsec; omega
  have h32 : ∀ i (h : i < ps.length), ps[i].length = 32 := by rw [hps]; exact secs_each _
  have hless := less_none (bl a0) (by rw [bl_len]; omega)
  have hmore := more_none (bl a0) (by rw [bl_len]; omega) (List.replicate 32 0)
  rw [← hps] at hless hmore
  have hpk := Lib.hid (pack_named a0 ps (by omega) hps)
  have hup := Lib.hid (unpack_named a0 ps (by omega) hps)
  have hfs := Lib.hid (size_named a0 ps.length (by omega) hsl.symm)
  have hm : min (a0.size : Int) 9000 = (a0.size : Int) := by omega
  have hex : a0.extract 0 a0.size = a0 := by rw [← str_bl (a0.extract _ _), bl_upto, List.take_of_length_le (by rw [bl_len]; omega), str_bl]
  have H32 := Lib.hid h32
  have Hless := Lib.hid hless
  have Hmore := Lib.hid hmore
  have hn0 : ((ps.length : Int) == 0) = false := by rw [beq_eq_false_iff_ne]; omega
  have hq : (a0.toList == a0.toList) = true := by simp
  clear hsl h32 hless hmore hps
  go_enter Tryd.func5, Tryd.ntmps5
  go_wp2_with (go_at_call 8; refine (hpk.out _ HT.out).mono ?_)
  rintro e W1 ⟨v, rfl, hown, b1⟩
  obtain ⟨g, c, rfl, hgw, hgs, hcc, hstr⟩ := owns_strs hown hpl0
  have Hown := Lib.hid hown
  have Hstr := Lib.hid hstr
  have h1 := Lib.hid (HT.out.below b1 hg)
  clear hown hstr hpk
  go_wp2_with (go_at_call 11; refine (hfs.out _).mono ?_; rintro e w' ⟨rfl, rfl⟩)
  clear hfs
  go_loop [5] (fun i => BackIRel ps i) (fun i => ps.length - (intOf i).toNat)
  case atStart => exact ⟨0, Nat.zero_le _, rfl⟩
  case round =>
    obtain ⟨k, hk, rfl⟩ := hrel
    by_cases hlt : k < ps.length
    · obtain ⟨b, o, hbo, hb, hcell⟩ := Hstr.out k hlt
      simp only [Option.some.injEq, Addr.mk.injEq, and_true] at hbo
      obtain ⟨rfl, rfl⟩ := hbo
      rw [Nat.zero_add] at hcell
      have hx32 : (str ps[k]).size = 32 := by rw [str_size]; exact H32.out k hlt
      generalize str ps[k] = x at *
      go_wp2
      go_round
      case rel => exact ⟨k + 1, by omega, by go_num⟩
      case measure => simp [intOf]; omega
    · have hkn : k = ps.length := by omega
      clear hk hlt
      subst hkn
      have hun := Lib.hid (hup.out _ _ _ Hown.out h1.out)
      go_wp2_with (go_at_call 14; refine hun.out.mono ?_)
      rintro e W2 ⟨rfl, b2⟩
      have b12 := below_step b1 b2
      have Hown2 := Lib.hid (owns_kept Hown.out b2)
      have Hstr2 := Lib.hid (Hstr.out.below b2 (Nat.le_refl _))
      have h2 := Lib.hid (HT.out.below b12 hg)
      have hcut := slice_cut 22 9 Tryd.underlying22 Tryd.sizeOf9 (some ⟨g, 0, none⟩) ps.length c ((ps.length : Int) - 1) (by omega) (by omega) W2
      have htn : ((ps.length : Int) - 1).toNat = ps.length - 1 := by omega
      rw [htn] at hcut
      have hstrl : StrsAt W2 (some ⟨g, 0, none⟩) (ps.take (ps.length - 1)) := by
        intro i h
        have hi : i < ps.length := by simp at h; omega
        have := Hstr2.out i hi
        simpa using this
      have htl : (ps.take (ps.length - 1)).length = ps.length - 1 := by simp
      have hfl : (ps.take (ps.length - 1)).flatten.length ≤ 100000 := by
        have h1 := flatten_take_len ps (ps.length - 1)
        have h2 := flatten_length32 ps H32.out
        omega
      have hun2 := unpack_none _ c (ps.take (ps.length - 1)) W2 hstrl (by omega) hfl (fun t ht => Hless.out t ht) h2.out
      rw [htl] at hun2
      have Hun2 := Lib.hid hun2
      clear hun2 hstrl htl hfl b1 b2 hun
      go_wp2_with (go_at_call 14; refine Hun2.out.mono ?_)
      rintro e W3 ⟨rfl, b3⟩
      have b13 := below_step b12 b3
      have Hown3 := Lib.hid (owns_kept Hown2.out b3)
      have Hstr3 := Lib.hid (Hstr2.out.below b3 (Nat.le_refl _))
      clear b3 b12 hcut Hun2
      go_wp2_with fail
      refine wp_region_slots_r (by kernel_rfl) 6 [83, 84, 85, 86, 87, 88] (by kernel_rfl) (GB w.heap.size (.slice (some ⟨g, 0, none⟩) ps.length c) ps) (GB_mono _ _ _) ?_ ?_
      · intro i o vs ρ W hi ho hρ hb hG
        have hc := hρ.const
        have e83 := hρ.at_ 83 0 rfl
        have e84 := hρ.at_ 84 1 rfl
        have e85 := hρ.at_ 85 2 rfl
        have e86 := hρ.at_ 86 3 rfl
        have e87 := hρ.at_ 87 4 rfl
        have e3 : ρ (.tmp 3) = .slice (some ⟨g, 0, none⟩) ps.length c := hρ.out 3 rfl
        rcases i with _ | _ | _ | _ | _ | _ | i
        all_goals (first | omega | skip)
        all_goals simp only [List.getElem?_toArray, List.getElem?_cons_zero, List.getElem?_cons_succ, Option.some.injEq] at ho
        all_goals subst ho
        · exact gb0 rfl (by have := hb.size; have := b13.size; omega)
        · exact gb1 3 rfl e3
        · exact gb2 83 84 g c _ rfl e83 (hG 0 (by kernel_rfl)) (by rw [e84]; exact hG 1 (by kernel_rfl)) (Hstr3.out.below hb (Nat.le_refl _)) hpl0 (by omega) (by have := hb.size; have := b13.size; omega)
        · exact gb3 _ rfl (hc _)
        · exact gb4 86 _ rfl e86 (hG 3 (by kernel_rfl))
        · exact gb5 87 _ rfl e87 (hG 4 (by kernel_rfl))
      · intro vs W hb hG
        have g2 : OwnsStrs W w.heap.size (vs 2) ps := hG 2 (by decide)
        obtain ⟨b5, h5, hb5⟩ : GB w.heap.size (.slice (some ⟨g, 0, none⟩) ps.length c) ps 5 (vs 5) W := hG 5 (by decide)
        have b14 : Below w.heap.size w W := below_step b13 hb
        clear hG hb b13
        simp only [putList, putSel, if_true]
        rw [h5]
        generalize vs 0 = x0
        generalize vs 1 = x1
        generalize vs 2 = x2 at *
        generalize vs 3 = x3
        generalize vs 4 = x4
        clear h5
        go_simp
        have hnews : ∀ j u, ([Value.string (str (List.replicate 32 0))] : List Value)[j]? = some u → W.cell? ((⟨b5, 0, none⟩ : Addr).add j) = some u := by
          intro j u hj
          match j, hj with
          | 0, hj =>
            simp only [List.getElem?_cons_zero, Option.some.injEq] at hj
            subst hj
            rw [addr_add, cell_of_row W b5 _ _ _ _ hb5]
            rfl
        refine wpAny_one (i := 6) (by kernel_rfl) rfl rfl ?_
        refine wp_append_own W (.tmp 85) (.tmp 88) 22 rfl w.heap.size 9 i0 (.string ByteArray.empty) 1 16 Tryd.underlying22 hi hz0 hz1 hz2 rfl (by decide) x2 ps.length (strVals ps) rfl g2 ⟨b5, 0, none⟩ 1 1 [.string (str (List.replicate 32 0))] rfl rfl hnews (one_cell_b (List.replicate 32 0)) (by unfold maxLen; omega) (by omega) b14.size ?_
        intro v6 w6 hown6 hgrow6 _
        have hn6 := owns_snoc (p := List.replicate 32 0) rfl hown6
        have b6 := b14.grown hgrow6 b14.size (fun j hj => (g2.lt j hj).1)
        have h6 := Lib.hid (HT.out.below b6 hg)
        have hflm : (ps ++ [List.replicate 32 0]).flatten.length ≤ 100000 := by
          have h2 := flatten_length32 ps H32.out
          rw [List.flatten_append, List.length_append, h2]
          simp
          omega
        have hun6 : Calls Tryd.prog 14 #[v6] w6 (okForm w6) := by
          obtain ⟨a6, c6, hv6, _, _, hs6, _, _⟩ := hn6.view
          rw [hv6]
          exact unpack_none a6 c6 _ w6 hs6 (by simp; omega) hflm (fun t ht => Hmore.out t ht) h6.out
        clear hown6 hgrow6 g2 hn6 hflm b14 hnews hb5
        go_simp
        refine wpAny_one (i := 7) (by kernel_rfl) rfl rfl ?_
        refine wp_of_call (f := 14) (args := #[v6]) (by go_simp) hun6 ?_
        intro w7 b7
        have b17 := below_step b6 b7
        have h7 := Lib.hid (HT.out.below b17 hg)
        clear b6 b7 hun6 h6
        go_simp
        refine wpAny_take (i := 8) (v := .tuple #[.string ⟨#[]⟩, .int .i64 4]) rfl (by kernel_rfl) (by kernel_rfl) (by kernel_rfl) (fun _ _ _ h => h) (Or.inl ⟨by rfl, fun w => by go_simp⟩) ?_
        go_simp
        refine wpAny_take (i := 9) (v := .string ⟨#[]⟩) rfl (by kernel_rfl) (by kernel_rfl) (by kernel_rfl) (fun _ _ _ h => h) (Or.inl ⟨by rfl, fun w => by go_simp⟩) ?_
        go_simp
        refine wpAny_take (i := 10) (v := .int .i64 4) rfl (by kernel_rfl) (by kernel_rfl) (by kernel_rfl) (fun _ _ _ h => h) (Or.inl ⟨by rfl, fun w => by go_simp⟩) ?_
        go_simp
        refine wpAny_take (i := 11) (v := .string ⟨#[]⟩) rfl (by kernel_rfl) (by kernel_rfl) (by kernel_rfl) (fun _ _ _ h => h) (Or.inl ⟨by rfl, fun w => by go_simp⟩) ?_
        go_simp
        refine wpAny_take (i := 12) (v := .int .i64 4) rfl (by kernel_rfl) (by kernel_rfl) (by kernel_rfl) (fun _ _ _ h => h) (Or.inl ⟨by rfl, fun w => by go_simp⟩) ?_
        go_simp
        refine ⟨by kernel_rfl, ?_⟩
        go_wp2_with (go_at_call 13; refine (fworks_any _ h7.out).mono ?_)
        rintro e W8 ⟨rfl, b8⟩
        have b18 := below_step b17 b8
        go_wp2
        go_ret
        exact ⟨rfl, b18⟩

set_option maxHeartbeats 800000 in
theorem back_long (a0 : ByteArray) (s0 : a0.size ≤ 140737488351232) (hx : 8192 < a0.size) (w : World) (ht : CTab w) :
    Calls Tryd.prog 5 #[.string a0] w (okTrue w) := by
  have HT := Lib.hid ht
  have hg := ht.1
  clear ht
  have hm0 : (0 : Int) ≤ min (a0.size : Int) 9000 := by omega
  have hm1 : min (a0.size : Int) 9000 ≤ (a0.size : Int) := by omega
  have hxs : 8192 < (a0.extract 0 (min (a0.size : Int) 9000).toNat).size := by simp; omega
  have hxc : (8192 : Int) < ((a0.extract 0 (min (a0.size : Int) 9000).toNat).size : Int) := by omega
  have hpk := Lib.hid (fun W => pack_long (a0.extract 0 (min (a0.size : Int) 9000).toNat) W hxs)
  go_enter Tryd.func5, Tryd.ntmps5
  go_wp2_with (go_at_call 8; refine (hpk.out _).mono ?_)
  rintro e W1 ⟨rfl, b1⟩
  have h1 := Lib.hid (HT.out.below b1 hg)
  go_wp2_with (go_at_call 13; refine (fworks_any _ h1.out).mono ?_)
  rintro e W2 ⟨rfl, b2⟩
  have b12 := below_step b1 b2
  go_wp2
  go_ret
  exact ⟨rfl, b12⟩

theorem frameBack_walk (a0 : ByteArray) (s0 : a0.size ≤ 140737488351232) (w : World) (ht : CTab w) :
    Calls Tryd.prog 5 #[.string a0] w (okTrue w) := by
  by_cases h : a0.size ≤ 8192
  · exact back_small a0 h w ht
  · exact back_long a0 s0 (by omega) w ht

end Go.Proofs.YtpjjmaknajjimaaDoor
