/- What reading a number and a text off a reader does: text, read, Num and Text of package wire. -/
import Derived.Test.YtijjpnpjdnddoaaNumG
namespace Go.Proofs.Ytijjpnpjdnddoaa
open Go.RowKit

def okText (b : Nat) (l : List UInt8) (x : Bool) (w : World) (e : Ending) (w' : World) : Prop :=
  w.grownBy w' (some b) ∧
    ((∃ t r, rdText l = some (t, r) ∧ e = .returned (.tuple #[.string (str t), .bool true]) ∧ RdAt b r x w') ∨
     (rdText l = none ∧ e = .returned (.tuple #[.string (str []), .bool false]) ∧ ∃ m, RdAt b m x w'))

set_option maxHeartbeats 400000 in
theorem text_any (b : Nat) (l : List UInt8) (x : Bool) (w : World) (h : RdAt b l x w) :
    Calls Try.prog 29 #[.func (.func 33) #[.pointer (some ⟨b, 0, none⟩)] #[]] w (okText b l x w) := by
  go_enter Try.func29, Try.ntmps29
  go_wp2_with (go_at_call 26; refine (num_any b l x _ h).mono ?_)
  rintro e w1 ⟨hg, ⟨n, r, hn, rfl, hr⟩ | ⟨hn, rfl, m, hm⟩⟩
  · have hn64 := (rdNum_is l n r hn).2
    have Hn := Lib.hid hn
    have Hg := Lib.hid hg
    obtain ⟨g, o, cap, hR⟩ := hr
    by_cases hlt : r.length < n
    · have hT : rdText l = none := by unfold rdText; rw [Hn.out]; simp [hlt]
      have HT := Lib.hid hT
      clear hT hg hn
      go_wp2_with (go_at_call 33; refine (take_no b g o cap r x (n : Int) _ hR (by omega)).mono ?_; rintro e w' ⟨rfl, rfl⟩)
      go_ret2
      exact ⟨Hg.out, .inr ⟨HT.out, rfl, r, g, o, cap, hR⟩⟩
    · have hT : rdText l = some (r.take n, r.drop n) := by unfold rdText; rw [Hn.out]; simp [hlt]
      have HT := Lib.hid hT
      have hln : (r.take n).length = n := by simp; omega
      have Hln := Lib.hid hln
      clear hT hg hn hln
      go_wp2_with (go_at_call 33; refine (take_yes b g o cap r x (n : Int) _ hR (by omega) (by omega)).mono ?_)
      rintro e w2 ⟨rfl, h1, h2, h3⟩
      rw [Int.toNat_natCast] at h1 h3
      have hcv := run_convert_bytes_back (P := Try.prog) w2 42 9 5 ⟨g, o, none⟩ n (r.take n) Try.underlying42 Try.underlying5 Try.underlying9 (by
        intro j hj
        rw [addr_add]
        exact h3.cell j hj)
      rw [Hln.out] at hcv
      have hcv' : (convert 42 9 (.slice (some ⟨g, o, none⟩) n n)).run Try.prog w2 = .ok (.string (str (r.take n))) w2 := hcv
      have H1 := Lib.hid h1
      have H2 := Lib.hid h2
      clear h1 h2 h3 hcv
      go_wp2
      go_ret2
      exact ⟨grown_trans Hg.out H2.out, .inl ⟨_, _, HT.out, rfl, _, _, _, H1.out⟩⟩
  · have hT : rdText l = none := by unfold rdText; rw [hn]
    have HT := Lib.hid hT
    have Hg := Lib.hid hg
    clear hT hg hn
    go_wp2
    go_ret2
    exact ⟨Hg.out, .inr ⟨HT.out, rfl, m, hm⟩⟩

theorem RdAt.flag {b : Nat} {l : List UInt8} {x : Bool} {w : World} (h : RdAt b l x w) (y : Bool) : RdAt b l y (w.setCell ⟨b, 1, none⟩ (.bool y)) := by
  obtain ⟨g, o, cap, hb, hr, h1, h2⟩ := h
  have hgb : g ≠ b := by
    intro e
    subst e
    obtain ⟨cs, fr, hg', _⟩ := hr
    rw [hb] at hg'
    simp at hg'
  have hw := heap_setCell_same w b 1 _ 44 (.bool y) hb
  exact ⟨g, o, cap, by rw [hw]; simp, hr.keep (Below.heap_setCell w _ _ g hgb), h1, h2⟩

theorem RdAt.flagGrown (b : Nat) (w : World) (v : Value) : w.grownBy (w.setCell ⟨b, 1, none⟩ v) (some b) :=
  ⟨rfl, rfl, rfl, by simp [World.setCell], fun k _ hk => Below.heap_setCell _ _ _ _ (fun e => hk (by simp [e]))⟩

theorem RdAt.cell1 {b : Nat} {l : List UInt8} {x : Bool} {w : World} (h : RdAt b l x w) : w.cell? ⟨b, 1, none⟩ = some (.bool x) ∧ w.frozen? ⟨b, 1, none⟩ = false := by
  obtain ⟨g, o, cap, hb, _⟩ := h
  exact ⟨by simp [World.cell?, hb], by simp [World.frozen?, hb]⟩

def okRdNum (b : Nat) (l : List UInt8) (w : World) (e : Ending) (w' : World) : Prop :=
  w.grownBy w' (some b) ∧
    ((∃ n r, rdNum l = some (n, r) ∧ e = .returned (.int .u64 (n : Int)) ∧ RdAt b r false w') ∨
     (rdNum l = none ∧ e = .returned (.int .u64 0) ∧ ∃ m, RdAt b m true w'))

set_option maxHeartbeats 400000 in
theorem readNum_any (b : Nat) (l : List UInt8) (w : World) (h : RdAt b l false w) :
    Calls Try.prog 25 #[.pointer (some ⟨b, 0, none⟩), .func (.func 26) #[] #[]] w (okRdNum b l w) := by
  go_enter Try.func25, Try.ntmps25
  go_wp2_with (go_at_call 18; refine (ok_yes b l _ h).mono ?_; rintro e w' ⟨rfl, rfl⟩)
  go_wp2_with (go_at_call 26; refine (num_any b l false _ h).mono ?_)
  rintro e w1 ⟨hg, ⟨n, r, hn, rfl, hr⟩ | ⟨hn, rfl, m, hm⟩⟩
  · have Hn := Lib.hid hn
    have Hg := Lib.hid hg
    obtain ⟨hc, hf⟩ := hr.cell1
    have Hr := Lib.hid (hr.flag false)
    clear hn hg hr
    go_wp2
    go_ret
    exact ⟨grown_trans Hg.out (RdAt.flagGrown _ _ _), .inl ⟨n, r, Hn.out, rfl, Hr.out⟩⟩
  · have Hn := Lib.hid hn
    have Hg := Lib.hid hg
    obtain ⟨hc, hf⟩ := hm.cell1
    have Hr := Lib.hid (hm.flag true)
    clear hn hg hm
    go_wp2
    go_ret
    exact ⟨grown_trans Hg.out (RdAt.flagGrown _ _ _), .inr ⟨Hn.out, rfl, m, Hr.out⟩⟩

theorem readNum_bad (b : Nat) (l : List UInt8) (w : World) (h : RdAt b l true w) :
    Calls Try.prog 25 #[.pointer (some ⟨b, 0, none⟩), .func (.func 26) #[] #[]] w fun e w' => e = .returned (.int .u64 0) ∧ w = w' := by
  go_enter Try.func25, Try.ntmps25
  go_wp2_with (go_at_call 18; refine (ok_no b l _ h).mono ?_; rintro e w' ⟨rfl, rfl⟩)
  go_ret
  exact ⟨rfl, rfl⟩

theorem readNum_nil (w : World) :
    Calls Try.prog 25 #[.pointer none, .func (.func 26) #[] #[]] w fun e w' => e = .returned (.int .u64 0) ∧ w = w' := by
  go_enter Try.func25, Try.ntmps25
  go_wp2_with (go_at_call 18; refine (ok_nil _).mono ?_; rintro e w' ⟨rfl, rfl⟩)
  go_ret
  exact ⟨rfl, rfl⟩

def okRdText (b : Nat) (l : List UInt8) (w : World) (e : Ending) (w' : World) : Prop :=
  w.grownBy w' (some b) ∧
    ((∃ t r, rdText l = some (t, r) ∧ e = .returned (.string (str t)) ∧ RdAt b r false w') ∨
     (rdText l = none ∧ e = .returned (.string (str [])) ∧ ∃ m, RdAt b m true w'))

set_option maxHeartbeats 400000 in
theorem readText_any (b : Nat) (l : List UInt8) (w : World) (h : RdAt b l false w) :
    Calls Try.prog 28 #[.pointer (some ⟨b, 0, none⟩), .func (.func 29) #[] #[]] w (okRdText b l w) := by
  go_enter Try.func28, Try.ntmps28
  go_wp2_with (go_at_call 18; refine (ok_yes b l _ h).mono ?_; rintro e w' ⟨rfl, rfl⟩)
  go_wp2_with (go_at_call 29; refine (text_any b l false _ h).mono ?_)
  rintro e w1 ⟨hg, ⟨n, r, hn, rfl, hr⟩ | ⟨hn, rfl, m, hm⟩⟩
  · have Hn := Lib.hid hn
    have Hg := Lib.hid hg
    obtain ⟨hc, hf⟩ := hr.cell1
    have Hr := Lib.hid (hr.flag false)
    clear hn hg hr
    go_wp2
    go_ret
    exact ⟨grown_trans Hg.out (RdAt.flagGrown _ _ _), .inl ⟨n, r, Hn.out, rfl, Hr.out⟩⟩
  · have Hn := Lib.hid hn
    have Hg := Lib.hid hg
    obtain ⟨hc, hf⟩ := hm.cell1
    have Hr := Lib.hid (hm.flag true)
    clear hn hg hm
    go_wp2
    go_ret
    exact ⟨grown_trans Hg.out (RdAt.flagGrown _ _ _), .inr ⟨Hn.out, rfl, m, Hr.out⟩⟩

theorem readText_bad (b : Nat) (l : List UInt8) (w : World) (h : RdAt b l true w) :
    Calls Try.prog 28 #[.pointer (some ⟨b, 0, none⟩), .func (.func 29) #[] #[]] w fun e w' => e = .returned (.string (str [])) ∧ w = w' := by
  go_enter Try.func28, Try.ntmps28
  go_wp2_with (go_at_call 18; refine (ok_no b l _ h).mono ?_; rintro e w' ⟨rfl, rfl⟩)
  go_ret
  exact ⟨rfl, rfl⟩

theorem readText_nil (w : World) :
    Calls Try.prog 28 #[.pointer none, .func (.func 29) #[] #[]] w fun e w' => e = .returned (.string (str [])) ∧ w = w' := by
  go_enter Try.func28, Try.ntmps28
  go_wp2_with (go_at_call 18; refine (ok_nil _).mono ?_; rintro e w' ⟨rfl, rfl⟩)
  go_ret
  exact ⟨rfl, rfl⟩

theorem num_good1 (b : Nat) (l : List UInt8) (w : World) (h : RdAt b l false w) : Calls Try.prog 14 #[.pointer (some ⟨b, 0, none⟩)] w (okRdNum b l w) := by
  go_enter Try.func14, Try.ntmps14
  go_wp2_with (go_at_call 25; refine (readNum_any b l _ h).mono ?_)
  rintro e w1 ⟨hg, ⟨n, r, hn, rfl, hr⟩ | ⟨hn, rfl, hm⟩⟩
  · have H : Hid (okRdNum b l w (.returned (.int .u64 (n : Int))) w1) := ⟨hg, .inl ⟨n, r, hn, rfl, hr⟩⟩
    clear hg hn hr
    go_wp2
    go_ret
    exact H.out
  · have H : Hid (okRdNum b l w (.returned (.int .u64 0)) w1) := ⟨hg, .inr ⟨hn, rfl, hm⟩⟩
    clear hg hn hm
    go_wp2
    go_ret
    exact H.out

theorem num_bad1 (b : Nat) (l : List UInt8) (w : World) (h : RdAt b l true w) : Calls Try.prog 14 #[.pointer (some ⟨b, 0, none⟩)] w fun e w' => e = .returned (.int .u64 0) ∧ w = w' := by
  go_enter Try.func14, Try.ntmps14
  go_wp2_with (go_at_call 25; refine (readNum_bad b l _ h).mono ?_; rintro e w' ⟨rfl, rfl⟩)
  go_ret
  exact ⟨rfl, rfl⟩

theorem num_nil1 (w : World) : Calls Try.prog 14 #[.pointer none] w fun e w' => e = .returned (.int .u64 0) ∧ w = w' := by
  go_enter Try.func14, Try.ntmps14
  go_wp2_with (go_at_call 25; refine (readNum_nil _).mono ?_; rintro e w' ⟨rfl, rfl⟩)
  go_ret
  exact ⟨rfl, rfl⟩

theorem text_good1 (b : Nat) (l : List UInt8) (w : World) (h : RdAt b l false w) : Calls Try.prog 16 #[.pointer (some ⟨b, 0, none⟩)] w (okRdText b l w) := by
  go_enter Try.func16, Try.ntmps16
  go_wp2_with (go_at_call 28; refine (readText_any b l _ h).mono ?_)
  rintro e w1 ⟨hg, ⟨n, r, hn, rfl, hr⟩ | ⟨hn, rfl, hm⟩⟩
  · have H : Hid (okRdText b l w (.returned (.string (str n))) w1) := ⟨hg, .inl ⟨n, r, hn, rfl, hr⟩⟩
    clear hg hn hr
    go_wp2
    go_ret
    exact H.out
  · have H : Hid (okRdText b l w (.returned (.string (str []))) w1) := ⟨hg, .inr ⟨hn, rfl, hm⟩⟩
    clear hg hn hm
    go_wp2
    go_ret
    exact H.out

theorem text_bad1 (b : Nat) (l : List UInt8) (w : World) (h : RdAt b l true w) : Calls Try.prog 16 #[.pointer (some ⟨b, 0, none⟩)] w fun e w' => e = .returned (.string (str [])) ∧ w = w' := by
  go_enter Try.func16, Try.ntmps16
  go_wp2_with (go_at_call 28; refine (readText_bad b l _ h).mono ?_; rintro e w' ⟨rfl, rfl⟩)
  go_ret
  exact ⟨rfl, rfl⟩

theorem text_nil1 (w : World) : Calls Try.prog 16 #[.pointer none] w fun e w' => e = .returned (.string (str [])) ∧ w = w' := by
  go_enter Try.func16, Try.ntmps16
  go_wp2_with (go_at_call 28; refine (readText_nil _).mono ?_; rintro e w' ⟨rfl, rfl⟩)
  go_ret
  exact ⟨rfl, rfl⟩

end Go.Proofs.Ytijjpnpjdnddoaa
