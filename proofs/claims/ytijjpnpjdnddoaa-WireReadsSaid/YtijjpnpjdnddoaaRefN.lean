/- What reading a number off the document's own reader does: Num of package stemmaref01. -/
import Derived.Test.YtijjpnpjdnddoaaRefR
namespace Go.Proofs.Ytijjpnpjdnddoaa
open Go.RowKit

def okQNum (c : Nat) (s : ByteArray) (w : World) (e : Ending) (w' : World) : Prop :=
  w.grownBy w' (some c) ∧
    ((∃ n r s', rdNum (bl s) = some (n, r) ∧ e = .returned (.int .u64 (n : Int)) ∧ bl s' = r ∧ QAt c s' false w') ∨
     (rdNum (bl s) = none ∧ e = .returned (.int .u64 0) ∧ QAt c ⟨#[]⟩ true w'))

def okQNo (c : Nat) (w : World) (e : Ending) (w' : World) : Prop :=
  w.grownBy w' (some c) ∧ e = .returned (.int .u64 0) ∧ QAt c ⟨#[]⟩ true w'

theorem get_bl (s : ByteArray) (i : Nat) (h : i < s.size) : (bl s)[i]'(by rw [bl_len]; exact h) = s[i] := rfl

theorem bl_cons (s : ByteArray) (h : 0 < s.size) : bl s = s[0] :: (bl s).drop 1 := by
  have hl : 0 < (bl s).length := by rw [bl_len]; exact h
  have := List.drop_eq_getElem_cons hl
  rw [List.drop_zero] at this
  rw [this]
  rfl

set_option maxHeartbeats 800000 in
theorem q_bad (c : Nat) (s : ByteArray) (w : World) (h : QAt c s true w) :
    Calls Try.prog 15 #[.pointer (some ⟨c, 0, none⟩)] w (okQNo c w) := by
  obtain ⟨h1, h2, h3, h4⟩ := h.cells
  go_enter Try.func15, Try.ntmps15
  go_wp2
  go_quiet (fail)
  have hq : QAt c s true (w.drewN nq) := h
  go_wp2_with (go_at_call 27; refine (fail_any c s true _ hq).mono ?_)
  rintro e w2 ⟨rfl, hq2, hg2⟩
  have Hg := Lib.hid (grown_past hg2)
  clear hg2
  go_wp2
  go_ret
  exact ⟨Hg.out, rfl, hq2⟩

set_option maxHeartbeats 800000 in
theorem q_empty (c : Nat) (s : ByteArray) (w : World) (h : QAt c s false w) (hp : s.size = 0) :
    Calls Try.prog 15 #[.pointer (some ⟨c, 0, none⟩)] w (okQNo c w) := by
  obtain ⟨h1, h2, h3, h4⟩ := h.cells
  have e1 := Lib.hid (show ((s.size : Int) == 0) = true by rw [beq_iff_eq]; omega)
  clear hp
  go_enter Try.func15, Try.ntmps15
  go_wp2
  have f1 := e1.out
  go_quiet (fail)
  have hq : QAt c s false (w.drewN nq) := h
  go_wp2_with (go_at_call 27; refine (fail_any c s false _ hq).mono ?_)
  rintro e w2 ⟨rfl, hq2, hg2⟩
  have Hg := Lib.hid (grown_past hg2)
  clear hg2
  go_wp2
  go_ret
  exact ⟨Hg.out, rfl, hq2⟩

set_option maxHeartbeats 800000 in
theorem q_big (c : Nat) (s : ByteArray) (w : World) (h : QAt c s false w) (hp : 0 < s.size) (hk : 8 < s[0].toNat) :
    Calls Try.prog 15 #[.pointer (some ⟨c, 0, none⟩)] w (okQNo c w) := by
  obtain ⟨h1, h2, h3, h4⟩ := h.cells
  have hp0 : 0 < s.size := by omega
  have hpi : (0 : Int) < (s.size : Int) := by omega
  have e1 := Lib.hid (show ((s.size : Int) == 0) = false by rw [beq_eq_false_iff_ne]; omega)
  have e2 := Lib.hid (show decide ((8 : Int) < (s[0].toNat : Int)) = true by rw [decide_eq_true_iff]; omega)
  go_enter Try.func15, Try.ntmps15
  go_wp2
  have f1 := e1.out
  have f2 := e2.out
  go_quiet (fail)
  have hq : QAt c s false (w.drewN nq) := h
  go_wp2_with (go_at_call 27; refine (fail_any c s false _ hq).mono ?_)
  rintro e w2 ⟨rfl, hq2, hg2⟩
  have Hg := Lib.hid (grown_past hg2)
  clear hg2
  go_wp2
  go_ret
  exact ⟨Hg.out, rfl, hq2⟩

set_option maxHeartbeats 800000 in
theorem q_short (c : Nat) (s : ByteArray) (w : World) (h : QAt c s false w) (hp : 0 < s.size) (hk : s[0].toNat ≤ 8) (hl : s.size < 1 + s[0].toNat) :
    Calls Try.prog 15 #[.pointer (some ⟨c, 0, none⟩)] w (okQNo c w) := by
  obtain ⟨h1, h2, h3, h4⟩ := h.cells
  have hp0 : 0 < s.size := by omega
  have hpi : (0 : Int) < (s.size : Int) := by omega
  have e1 := Lib.hid (show ((s.size : Int) == 0) = false by rw [beq_eq_false_iff_ne]; omega)
  have e2 := Lib.hid (show decide ((8 : Int) < (s[0].toNat : Int)) = false by rw [decide_eq_false_iff_not]; omega)
  have e3 := Lib.hid (show decide ((s.size : Int) < (1 : Int) + (s[0].toNat : Int)) = true by rw [decide_eq_true_iff]; omega)
  go_enter Try.func15, Try.ntmps15
  go_wp2
  have f1 := e1.out
  have f2 := e2.out
  have f3 := e3.out
  go_quiet (fail)
  have hq : QAt c s false (w.drewN nq) := h
  go_wp2_with (go_at_call 27; refine (fail_any c s false _ hq).mono ?_)
  rintro e w2 ⟨rfl, hq2, hg2⟩
  have Hg := Lib.hid (grown_past hg2)
  clear hg2
  go_wp2
  go_ret
  exact ⟨Hg.out, rfl, hq2⟩

set_option maxHeartbeats 800000 in
theorem q_zero (c : Nat) (s : ByteArray) (w : World) (h : QAt c s false w) (hp : 1 < s.size) (hk : s[0].toNat ≤ 8) (hl : 1 + s[0].toNat ≤ s.size) (hk0 : 0 < s[0].toNat) (h0 : s[1].toNat = 0) :
    Calls Try.prog 15 #[.pointer (some ⟨c, 0, none⟩)] w (okQNo c w) := by
  obtain ⟨h1, h2, h3, h4⟩ := h.cells
  have hp0 : 0 < s.size := by omega
  have hpi : (0 : Int) < (s.size : Int) := by omega
  have e1 := Lib.hid (show ((s.size : Int) == 0) = false by rw [beq_eq_false_iff_ne]; omega)
  have hpi1 : (1 : Int) < (s.size : Int) := by omega
  have e2 := Lib.hid (show decide ((8 : Int) < (s[0].toNat : Int)) = false by rw [decide_eq_false_iff_not]; omega)
  have e3 := Lib.hid (show decide ((s.size : Int) < (1 : Int) + (s[0].toNat : Int)) = false by rw [decide_eq_false_iff_not]; omega)
  have e4 := Lib.hid (show decide ((0 : Int) < (s[0].toNat : Int)) = true by rw [decide_eq_true_iff]; omega)
  have e5 := Lib.hid (show ((s[1].toNat : Int) == 0) = true by rw [beq_iff_eq]; omega)
  clear h0
  go_enter Try.func15, Try.ntmps15
  go_wp2
  have f1 := e1.out
  have f2 := e2.out
  have f3 := e3.out
  have f4 := e4.out
  have f5 := e5.out
  go_quiet (fail)
  have hq : QAt c s false (w.drewN nq) := h
  go_wp2_with (go_at_call 27; refine (fail_any c s false _ hq).mono ?_)
  rintro e w2 ⟨rfl, hq2, hg2⟩
  have Hg := Lib.hid (grown_past hg2)
  clear hg2
  go_wp2
  go_ret
  exact ⟨Hg.out, rfl, hq2⟩

end Go.Proofs.Ytijjpnpjdnddoaa
