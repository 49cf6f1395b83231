/- What reading a text off the document's own reader does: Text of package stemmaref01. -/
import Derived.Test.YtijjpnpjdnddoaaRefQ
namespace Go.Proofs.Ytijjpnpjdnddoaa
open Go.RowKit

theorem bl_take (s : ByteArray) (n : Nat) : s.extract 0 n = str ((bl s).take n) := by
  obtain ⟨⟨l⟩⟩ := s
  apply ByteArray.ext
  simp [str, bl]

def okQText (c : Nat) (s : ByteArray) (w : World) (e : Ending) (w' : World) : Prop :=
  w.grownBy w' (some c) ∧
    ((∃ t r s', rdText (bl s) = some (t, r) ∧ e = .returned (.string (str t)) ∧ bl s' = r ∧ QAt c s' false w') ∨
     (rdText (bl s) = none ∧ e = .returned (.string (str [])) ∧ QAt c ⟨#[]⟩ true w'))

def okQTNo (c : Nat) (w : World) (e : Ending) (w' : World) : Prop :=
  w.grownBy w' (some c) ∧ e = .returned (.string (str [])) ∧ QAt c ⟨#[]⟩ true w'

set_option maxHeartbeats 800000 in
theorem q_text_bad (c : Nat) (s : ByteArray) (w : World) (h : QAt c s true w) :
    Calls Try.prog 17 #[.pointer (some ⟨c, 0, none⟩)] w (okQTNo c w) := by
  go_enter Try.func17, Try.ntmps17
  go_wp2_with (go_at_call 15; refine (q_bad c s _ h).mono ?_)
  rintro e w1 ⟨hg, rfl, hq⟩
  obtain ⟨h1, h2, h3, h4⟩ := hq.cells
  have Hg := Lib.hid hg
  clear hg
  go_wp2_with (go_at_call 27; refine (fail_any c ⟨#[]⟩ true _ hq).mono ?_)
  rintro e w2 ⟨rfl, hq2, hg2⟩
  have Hg2 := Lib.hid (grown_trans Hg.out hg2)
  clear hg2 h1 h2 h3 h4 hq
  go_wp2
  go_ret
  exact ⟨Hg2.out, rfl, hq2⟩

set_option maxHeartbeats 800000 in
theorem q_text (c : Nat) (s : ByteArray) (w : World) (h : QAt c s false w) :
    Calls Try.prog 17 #[.pointer (some ⟨c, 0, none⟩)] w (okQText c s w) := by
  go_enter Try.func17, Try.ntmps17
  go_wp2_with (go_at_call 15; refine (q_num c s _ h).mono ?_)
  rintro e w1 ⟨hg, ⟨n, r, s', hn, rfl, hr, hq⟩ | ⟨hn, rfl, hq⟩⟩
  · obtain ⟨h1, h2, h3, h4⟩ := hq.cells
    have hn64 := (rdNum_is _ n r hn).2
    have hs' := hq.2
    have hrl : r.length = s'.size := by rw [← hr, bl_len]
    by_cases hlt : s'.size < n
    · have hT : rdText (bl s) = none := by unfold rdText; rw [hn]; simp; omega
      have HT := Lib.hid hT
      have Hg := Lib.hid hg
      have hgt : (s'.size : Int) < (n : Int) := by omega
      clear hg hn hr hT hrl
      go_wp2_with (go_at_call 27; refine (fail_any c s' false _ hq).mono ?_)
      rintro e w2 ⟨rfl, hq2, hg2⟩
      have Hg2 := Lib.hid (grown_trans Hg.out hg2)
      clear hg2 h1 h2 h3 h4 hq
      go_wp2
      go_ret
      exact ⟨Hg2.out, .inr ⟨HT.out, rfl, hq2⟩⟩
    · have hT : rdText (bl s) = some (r.take n, r.drop n) := by unfold rdText; rw [hn]; simp; omega
      have HT := Lib.hid hT
      have hle : (n : Int) ≤ (s'.size : Int) := by omega
      have hx : (s'.extract n s'.size).size ≤ 1000000 := by simp; omega
      have HQ := Lib.hid (hq.set0 _ hx)
      have HG := Lib.hid (grown_trans hg (grown_set c 0 w1 (.string (s'.extract n s'.size))))
      have HE := Lib.hid (show s'.extract 0 n = str (r.take n) by rw [bl_take, hr])
      have HD := Lib.hid (show bl (s'.extract n s'.size) = r.drop n by rw [bl_extract, hr])
      clear hg hn hr hT hrl hq
      go_wp2
      go_ret
      exact ⟨HG.out, .inl ⟨_, _, _, HT.out, by rw [← HE.out]; rfl, HD.out, HQ.out⟩⟩
  · obtain ⟨h1, h2, h3, h4⟩ := hq.cells
    have hT : rdText (bl s) = none := by unfold rdText; rw [hn]
    have HT := Lib.hid hT
    have Hg := Lib.hid hg
    clear hg hn hT
    go_wp2_with (go_at_call 27; refine (fail_any c ⟨#[]⟩ true _ hq).mono ?_)
    rintro e w2 ⟨rfl, hq2, hg2⟩
    have Hg2 := Lib.hid (grown_trans Hg.out hg2)
    clear hg2 h1 h2 h3 h4 hq
    go_wp2
    go_ret
    exact ⟨Hg2.out, .inr ⟨HT.out, rfl, hq2⟩⟩

/-! ### The two readers side by side -/

theorem QAt.keep {b c : Nat} {s : ByteArray} {bad : Bool} {w w' : World} (h : QAt c s bad w) (hne : c ≠ b) (hg : w.grownBy w' (some b)) : QAt c s bad w' :=
  ⟨(hg.block c (lt_of_some h.1) (by simpa using hne)).trans h.1, h.2⟩

theorem RdAt.keepQ {b c : Nat} {l : List UInt8} {x y : Bool} {s : ByteArray} {w w' : World} (h : RdAt b l x w) (k : QAt c s y w) (hg : w.grownBy w' (some c)) : RdAt b l x w' := by
  obtain ⟨g, o, cap, hb, hr, h1, h2⟩ := h
  have hgc : g ≠ c := by
    intro e
    subst e
    obtain ⟨cs, fr, hg', _⟩ := hr
    rw [k.1] at hg'
    simp at hg'
  have hbc : b ≠ c := by
    intro e
    subst e
    rw [k.1] at hb
    simp at hb
  have hgl : g < w.heap.size := by obtain ⟨cs, fr, hg', _⟩ := hr; exact lt_of_some hg'
  exact ⟨g, o, cap, (hg.block b (lt_of_some hb) (by simpa using hbc)).trans hb, hr.keep (hg.block g hgl (by simpa using hgc)), h1, h2⟩

/-- Both readers stand alike. -/
def RQ (b c : Nat) (ok en : Bool) (w : World) : Prop :=
  ∃ l s, RdAt b l (!ok) w ∧ QAt c s (!ok) w ∧ (ok = true → bl s = l) ∧ en = (ok && l.isEmpty)

theorem rq_ne {b c : Nat} {l : List UInt8} {x y : Bool} {s : ByteArray} {w : World} (h : RdAt b l x w) (k : QAt c s y w) : c ≠ b := by
  obtain ⟨g, o, cap, hb, _⟩ := h
  intro e
  subst e
  rw [k.1] at hb
  simp at hb

theorem rq_ok (b c : Nat) (ok en : Bool) (w : World) (h : RQ b c ok en w) : Calls Try.prog 18 #[.pointer (some ⟨b, 0, none⟩)] w fun e w' => e = .returned (.bool ok) ∧ w = w' := by
  obtain ⟨l, s, hr, _⟩ := h
  cases ok with
  | true => exact ok_yes b l w hr
  | false => exact ok_no b l w hr

theorem rq_okq (b c : Nat) (ok en : Bool) (w : World) (h : RQ b c ok en w) : Calls Try.prog 19 #[.pointer (some ⟨c, 0, none⟩)] w fun e w' => e = .returned (.bool ok) ∧ w = w' := by
  obtain ⟨l, s, _, hq, _⟩ := h
  simpa using q_ok c s (!ok) w hq

theorem rq_end (b c : Nat) (ok en : Bool) (w : World) (h : RQ b c ok en w) : Calls Try.prog 20 #[.pointer (some ⟨b, 0, none⟩)] w fun e w' => e = .returned (.bool en) ∧ w = w' := by
  obtain ⟨l, s, hr, _, _, rfl⟩ := h
  cases ok with
  | true => simpa using end_good b l w hr
  | false => exact end_bad b l w hr

theorem rq_endq (b c : Nat) (ok en : Bool) (w : World) (h : RQ b c ok en w) : Calls Try.prog 21 #[.pointer (some ⟨c, 0, none⟩)] w fun e w' => e = .returned (.bool en) ∧ w = w' := by
  obtain ⟨l, s, _, hq, hs, rfl⟩ := h
  cases ok with
  | true => have := q_end c s false w hq; rw [hs rfl] at this; simpa using this
  | false => exact q_end c s true w hq

/-- The first reader has read n; the other one is to read it. -/
def MidN (b c n : Nat) (w : World) : Prop :=
  ∃ l s, (RdAt b l false w ∧ QAt c s false w ∧ rdNum (bl s) = some (n, l)) ∨ (RdAt b l true w ∧ QAt c s false w ∧ rdNum (bl s) = none ∧ n = 0) ∨ (RdAt b l true w ∧ QAt c s true w ∧ n = 0)

theorem rq_num (b c : Nat) (ok en : Bool) (w : World) (h : RQ b c ok en w) :
    Calls Try.prog 14 #[.pointer (some ⟨b, 0, none⟩)] w fun e w' => ∃ n : Nat, e = .returned (.int .u64 (n : Int)) ∧ MidN b c n w' ∧ w.grownBy w' (some b) := by
  obtain ⟨l, s, hr, hq, hs, _⟩ := h
  have hne := rq_ne hr hq
  cases ok with
  | true =>
    refine (num_good1 b l w hr).mono fun e w' hh => ?_
    obtain ⟨hg, ⟨n, r, hn, rfl, hr'⟩ | ⟨hn, rfl, m, hm⟩⟩ := hh
    · exact ⟨n, rfl, ⟨r, s, .inl ⟨hr', hq.keep hne hg, by rw [hs rfl]; exact hn⟩⟩, hg⟩
    · exact ⟨0, rfl, ⟨m, s, .inr (.inl ⟨hm, hq.keep hne hg, by rw [hs rfl]; exact hn, rfl⟩)⟩, hg⟩
  | false =>
    refine (num_bad1 b l w hr).mono fun e w' hh => ?_
    obtain ⟨rfl, rfl⟩ := hh
    exact ⟨0, rfl, ⟨l, s, .inr (.inr ⟨hr, hq, rfl⟩)⟩, grown_refl _ _⟩

theorem rq_numq (b c n : Nat) (w : World) (h : MidN b c n w) :
    Calls Try.prog 15 #[.pointer (some ⟨c, 0, none⟩)] w fun e w' => e = .returned (.int .u64 (n : Int)) ∧ (∃ ok en, RQ b c ok en w') ∧ w.grownBy w' (some c) := by
  obtain ⟨l, s, ⟨hr, hq, hn⟩ | ⟨hr, hq, hn, rfl⟩ | ⟨hr, hq, rfl⟩⟩ := h
  · refine (q_num c s w hq).mono fun e w' hh => ?_
    obtain ⟨hg, ⟨n', r', s', hn', rfl, hb, hq'⟩ | ⟨hn', _⟩⟩ := hh
    · rw [hn] at hn'
      simp only [Option.some.injEq, Prod.mk.injEq] at hn'
      obtain ⟨rfl, rfl⟩ := hn'
      exact ⟨rfl, ⟨true, l.isEmpty, l, s', hr.keepQ hq hg, hq', fun _ => hb, by simp⟩, hg⟩
    · rw [hn] at hn'; cases hn'
  · refine (q_num c s w hq).mono fun e w' hh => ?_
    obtain ⟨hg, ⟨n', r', s', hn', _⟩ | ⟨_, rfl, hq'⟩⟩ := hh
    · rw [hn] at hn'; cases hn'
    · exact ⟨rfl, ⟨false, false, l, _, hr.keepQ hq hg, hq', (fun h => by cases h), rfl⟩, hg⟩
  · refine (q_bad c s w hq).mono fun e w' hh => ?_
    obtain ⟨hg, rfl, hq'⟩ := hh
    exact ⟨rfl, ⟨false, false, l, _, hr.keepQ hq hg, hq', (fun h => by cases h), rfl⟩, hg⟩

/-- The first reader has read t; the other one is to read it. -/
def MidT (b c : Nat) (t : List UInt8) (w : World) : Prop :=
  ∃ l s, (RdAt b l false w ∧ QAt c s false w ∧ rdText (bl s) = some (t, l)) ∨ (RdAt b l true w ∧ QAt c s false w ∧ rdText (bl s) = none ∧ t = []) ∨ (RdAt b l true w ∧ QAt c s true w ∧ t = [])

theorem rq_text (b c : Nat) (ok en : Bool) (w : World) (h : RQ b c ok en w) :
    Calls Try.prog 16 #[.pointer (some ⟨b, 0, none⟩)] w fun e w' => ∃ t, e = .returned (.string (str t)) ∧ MidT b c t w' ∧ w.grownBy w' (some b) := by
  obtain ⟨l, s, hr, hq, hs, _⟩ := h
  have hne := rq_ne hr hq
  cases ok with
  | true =>
    refine (text_good1 b l w hr).mono fun e w' hh => ?_
    obtain ⟨hg, ⟨n, r, hn, rfl, hr'⟩ | ⟨hn, rfl, m, hm⟩⟩ := hh
    · exact ⟨n, rfl, ⟨r, s, .inl ⟨hr', hq.keep hne hg, by rw [hs rfl]; exact hn⟩⟩, hg⟩
    · exact ⟨[], rfl, ⟨m, s, .inr (.inl ⟨hm, hq.keep hne hg, by rw [hs rfl]; exact hn, rfl⟩)⟩, hg⟩
  | false =>
    refine (text_bad1 b l w hr).mono fun e w' hh => ?_
    obtain ⟨rfl, rfl⟩ := hh
    exact ⟨[], rfl, ⟨l, s, .inr (.inr ⟨hr, hq, rfl⟩)⟩, grown_refl _ _⟩

theorem rq_textq (b c : Nat) (t : List UInt8) (w : World) (h : MidT b c t w) :
    Calls Try.prog 17 #[.pointer (some ⟨c, 0, none⟩)] w fun e w' => e = .returned (.string (str t)) ∧ (∃ ok en, RQ b c ok en w') ∧ w.grownBy w' (some c) := by
  obtain ⟨l, s, ⟨hr, hq, hn⟩ | ⟨hr, hq, hn, rfl⟩ | ⟨hr, hq, rfl⟩⟩ := h
  · refine (q_text c s w hq).mono fun e w' hh => ?_
    obtain ⟨hg, ⟨n', r', s', hn', rfl, hb, hq'⟩ | ⟨hn', _⟩⟩ := hh
    · rw [hn] at hn'
      simp only [Option.some.injEq, Prod.mk.injEq] at hn'
      obtain ⟨rfl, rfl⟩ := hn'
      exact ⟨rfl, ⟨true, l.isEmpty, l, s', hr.keepQ hq hg, hq', fun _ => hb, by simp⟩, hg⟩
    · rw [hn] at hn'; cases hn'
  · refine (q_text c s w hq).mono fun e w' hh => ?_
    obtain ⟨hg, ⟨n', r', s', hn', _⟩ | ⟨_, rfl, hq'⟩⟩ := hh
    · rw [hn] at hn'; cases hn'
    · exact ⟨rfl, ⟨false, false, l, _, hr.keepQ hq hg, hq', (fun h => by cases h), rfl⟩, hg⟩
  · refine (q_text_bad c s w hq).mono fun e w' hh => ?_
    obtain ⟨hg, rfl, hq'⟩ := hh
    exact ⟨rfl, ⟨false, false, l, _, hr.keepQ hq hg, hq', (fun h => by cases h), rfl⟩, hg⟩

end Go.Proofs.Ytijjpnpjdnddoaa
