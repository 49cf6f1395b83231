/- The walk of WireOne. -/
import Derived.Test.YtijjpnpjdnddoaaWorks
import Derived.Deep.DeepCutAuto
import Derived.OpenShut
namespace Go.Proofs.Ytijjpnpjdnddoaa
open Go.RowKit

theorem numB_len (n : Nat) : (numB n).length ≤ 9 := by have := digs_len n; simp [numB]; omega

/-- What End answers of block b's reader. -/
def EndIs (b : Nat) (en : Bool) (w : World) : Prop := ∃ l bad, RdAt b l bad w ∧ en = (!bad && l.isEmpty)

theorem end_is (b : Nat) (en : Bool) (w : World) (h : EndIs b en w) :
    Calls Try.prog 20 #[.pointer (some ⟨b, 0, none⟩)] w fun e w' => e = .returned (.bool en) ∧ w = w' := by
  obtain ⟨l, bad, hr, rfl⟩ := h
  cases bad with
  | true => exact end_bad b l w hr
  | false => simpa using end_good b l w hr

theorem num_u (b : Nat) (l : List UInt8) (w : World) (h : RdAt b l false w) :
    Calls Try.prog 14 #[.pointer (some ⟨b, 0, none⟩)] w fun e w' => ∃ (n : Nat) (en : Bool), e = .returned (.int .u64 (n : Int)) ∧ n < 18446744073709551616 ∧ EndIs b en w' ∧ w.grownBy w' (some b) ∧ (en = true → numB n = l) := by
  refine (num_good1 b l w h).mono fun e w' hh => ?_
  obtain ⟨hg, ⟨n, r, hn, rfl, hr⟩ | ⟨hn, rfl, m, hm⟩⟩ := hh
  · have := rdNum_is l n r hn
    refine ⟨n, r.isEmpty, rfl, this.2, ⟨r, false, hr, by simp⟩, hg, fun he => ?_⟩
    have : r = [] := by simpa using he
    subst this
    simpa using (rdNum_is l n [] hn).1.symm
  · exact ⟨0, false, rfl, by decide, ⟨m, true, hm, by simp⟩, hg, fun he => by cases he⟩

theorem text_u (b : Nat) (l : List UInt8) (w : World) (h : RdAt b l false w) :
    Calls Try.prog 16 #[.pointer (some ⟨b, 0, none⟩)] w fun e w' => ∃ (t : List UInt8) (en : Bool), e = .returned (.string (str t)) ∧ t.length ≤ l.length ∧ EndIs b en w' ∧ w.grownBy w' (some b) ∧ (en = true → textB t = l) := by
  refine (text_good1 b l w h).mono fun e w' hh => ?_
  obtain ⟨hg, ⟨t, r, hn, rfl, hr⟩ | ⟨hn, rfl, m, hm⟩⟩ := hh
  · have hl := rdText_is l t r hn
    refine ⟨t, r.isEmpty, rfl, ?_, ⟨r, false, hr, by simp⟩, hg, fun he => ?_⟩
    · rw [hl]; simp [textB, numB]; omega
    · have : r = [] := by simpa using he
      subst this
      simpa using (rdText_is l t [] hn).symm
  · exact ⟨[], false, rfl, by simp, ⟨m, true, hm, by simp⟩, hg, fun he => by cases he⟩

set_option maxHeartbeats 800000 in
theorem one_walk (a0 : ByteArray) (n : Nat) (w0 : a0.size ≤ 9223372036854775807) (hn : n < 18446744073709551616) (w : World) :
    Calls Try.prog 6 #[.string a0, .int .u64 (n : Int)] w (okTrue w) := by
  have hz0 : (a0.extract 0 (min (a0.size : Int) 300).toNat).size ≤ 300 := by simp; omega
  go_enter Try.func6, Try.ntmps6
  go_wp2_with fail
  generalize a0.extract 0 (min (a0.size : Int) 300).toNat = s at *
  refine (new_any s _ (by omega)).mono ?_
  rintro e W1 ⟨b, rfl, hb, hr, b1⟩
  go_wp2_with (go_at_call 13; refine (new_any s _ (by omega)).mono ?_)
  rintro e W2 ⟨c, rfl, hc, hq, b2⟩
  have hr2 := hr.below b2
  have b12 := below_step b1 b2
  have hcw : w.heap.size ≤ c := Nat.le_trans b1.size hc
  have hbc : b ≠ c := by have := hr.lt; omega
  clear hr b1 b2 hc
  go_wp2_with (go_at_call 14; refine (num_u b (bl s) _ hr2).mono ?_)
  rintro e W3 ⟨m, en, rfl, hm, hen, hg, he⟩
  have hq3 := hq.keep hr2 (Ne.symm hbc) hg
  have b13 := grown_below b12 hb hg
  have He := Lib.hid he
  clear hq hr2 b12 hg he
  go_upto_region 6 with fail
  go_cut [36] (fun t wx => t = .bool false ∧ Below w.heap.size w wx ∧ RdAt c (bl s) false wx)
  case first =>
    cases en with
    | false =>
      go_wp2_with (go_at_call 20; refine (end_is b false _ hen).mono ?_; rintro e w' ⟨rfl, rfl⟩)
      go_meet
      case rel => exact ⟨rfl, b13, hq3⟩
    | true =>
      have hs : str (bl ⟨#[]⟩ ++ numB m) = s := by
        rw [show bl ⟨#[]⟩ = [] from rfl, List.nil_append, He.out rfl, str_bl]
      have Hs := Lib.hid hs
      clear hs
      go_wp2_with (go_at_call 20; refine (end_is b true _ hen).mono ?_; rintro e w' ⟨rfl, rfl⟩)
      refine (putNum_nat ⟨#[]⟩ m _ hm (by decide)).mono ?_
      rintro e W4 ⟨rfl, b4⟩
      rw [Hs.out]
      have hq4 := hq3.below b4
      have b14 := below_step b13 b4
      clear b13 b4 hq3
      go_wp2
      go_meet
      case rel => exact ⟨rfl, b14, hq4⟩
  case rest =>
    obtain ⟨rfl, hB, hR⟩ := hcut
    clear hen He b13 hq3
    go_wp2_with (go_at_call 16; refine (text_u c (bl s) _ hR).mono ?_)
    rintro e W5 ⟨t, en2, rfl, ht, hen, hg, he⟩
    have hl := bl_len s
    have b15 := grown_below hB hcw hg
    have He := Lib.hid he
    have htl : (str t).size ≤ 300 := by rw [str_size]; omega
    clear hB hR hg he hl ht
    go_upto_region 9 with fail
    go_cut [46] (fun t wx => t = .bool false ∧ Below w.heap.size w wx)
    case first =>
      cases en2 with
      | false =>
        go_wp2_with (go_at_call 20; refine (end_is c false _ hen).mono ?_; rintro e w' ⟨rfl, rfl⟩)
        go_meet
        case rel => exact ⟨rfl, b15⟩
      | true =>
        have hs : str (bl ⟨#[]⟩ ++ textB (bl (str t))) = s := by
          rw [show bl ⟨#[]⟩ = [] from rfl, List.nil_append, bl_str, He.out rfl, str_bl]
        have Hs := Lib.hid hs
        clear hs
        go_wp2_with (go_at_call 20; refine (end_is c true _ hen).mono ?_; rintro e w' ⟨rfl, rfl⟩)
        refine (putText_any ⟨#[]⟩ (str t) _ (by decide) (by omega)).mono ?_
        rintro e W6 ⟨rfl, b6⟩
        rw [Hs.out]
        have b16 := below_step b15 b6
        clear b15 b6
        go_wp2
        go_meet
        case rel => exact ⟨rfl, b16⟩
    case rest =>
      obtain ⟨rfl, hB⟩ := hcut
      clear hen He b15
      go_wp2_with (go_at_call 8; refine (putNum_nat ⟨#[]⟩ n _ hn (by decide)).mono ?_)
      rintro e W7 ⟨rfl, b7⟩
      have b17 := below_step hB b7
      clear hB b7
      rw [show bl ⟨#[]⟩ ++ numB n = numB n from rfl]
      have hbb : bl (str (numB n)) = numB n := bl_str _
      have hsz := str_size (numB n)
      generalize str (numB n) = bb at *
      have Hbb := Lib.hid hbb
      have Hsz := Lib.hid hsz
      have hb9 : bb.size ≤ 9 := by rw [hsz]; exact numB_len n
      clear hbb hsz
      go_wp2
      go_loopw [10] (fun i wr => ∃ k : Nat, k ≤ bb.size ∧ i = .int .i64 (k : Int) ∧ Below w.heap.size w wr) (fun i _ => bb.size - (intOf i).toNat)
      case atStart => exact ⟨0, Nat.zero_le _, rfl, b17⟩
      case round =>
        obtain ⟨k, hk, rfl, hB⟩ := hrel
        by_cases hlt : k < bb.size
        · have hex : bl (bb.extract 0 k) = (numB n).take k := by
            rw [← Hbb.out]
            simp [bl]
          have hexs : (bb.extract 0 k).size ≤ 9 := by simp; omega
          have hno : rdNum (bl (bb.extract 0 k)) = none := by
            rw [hex]
            exact rdNum_cut n hn k (by rw [← Hsz.out]; exact hlt)
          have Hno := Lib.hid hno
          clear hex hno
          go_wp2_with (go_at_call 13; refine (new_any (bb.extract 0 k) _ (by omega)).mono ?_)
          rintro e W8 ⟨x, rfl, hx, hr, b8⟩
          have b18 := below_step hB b8
          have hxw : w.heap.size ≤ x := Nat.le_trans hB.size hx
          clear hB b8 hx
          go_wp2_with (go_at_call 14; refine (num_none x _ _ hr Hno.out).mono ?_)
          rintro e W9 ⟨rfl, ⟨m', hm'⟩, hg⟩
          have b19 := grown_below b18 hxw hg
          clear hr hg b18
          go_wp2_with (go_at_call 18; refine (ok_no x m' _ hm').mono ?_; rintro e w' ⟨rfl, rfl⟩)
          go_wp2_with (go_at_call 20; refine (end_bad x m' _ hm').mono ?_; rintro e w' ⟨rfl, rfl⟩)
          go_wp2_with (go_at_call 14; refine (num_bad1 x m' _ hm').mono ?_; rintro e w' ⟨rfl, rfl⟩)
          refine (text_bad1 x m' _ hm').mono ?_
          rintro e w' ⟨rfl, rfl⟩
          rw [show str [] = ⟨#[]⟩ from rfl]
          go_wp2
          go_roundw
          case rel => exact ⟨k + 1, by omega, by go_num, b19⟩
          case measure => simp [intOf]; omega
        · go_wp2_with (go_at_call 12; refine (works_any _).mono ?_)
          rintro e W10 ⟨rfl, b10⟩
          have b20 := below_step hB b10
          go_wp2
          go_ret
          exact ⟨rfl, b20⟩

end Go.Proofs.Ytijjpnpjdnddoaa
