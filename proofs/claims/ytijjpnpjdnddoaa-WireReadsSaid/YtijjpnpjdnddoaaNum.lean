/- What reading a number and a text off a reader does: num, text, read, Num and Text of package wire. -/
import Derived.Test.YtijjpnpjdnddoaaRead
namespace Go.Proofs.Ytijjpnpjdnddoaa
open Go.RowKit

def okNum (b : Nat) (l : List UInt8) (x : Bool) (w : World) (e : Ending) (w' : World) : Prop :=
  w.grownBy w' (some b) ∧
    ((∃ n r, rdNum l = some (n, r) ∧ e = .returned (.tuple #[.int .u64 (n : Int), .bool true]) ∧ RdAt b r x w') ∨
     (rdNum l = none ∧ e = .returned (.tuple #[.int .u64 0, .bool false]) ∧ ∃ m, RdAt b m x w'))

set_option maxHeartbeats 400000 in
theorem num_empty (b : Nat) (x : Bool) (w : World) (h : RdAt b [] x w) :
    Calls Try.prog 26 #[.func (.func 33) #[.pointer (some ⟨b, 0, none⟩)] #[]] w (okNum b [] x w) := by
  obtain ⟨g, o, cap, hR⟩ := h
  have hR' : RdAt b [] x w := ⟨g, o, cap, hR⟩
  go_enter Try.func26, Try.ntmps26
  go_wp2_with (go_at_call 33; refine (take_no b g o cap [] x 1 _ hR (by simp)).mono ?_; rintro e w' ⟨rfl, rfl⟩)
  go_ret2
  exact ⟨grown_refl _ _, .inr ⟨rfl, rfl, [], hR'⟩⟩

theorem Row.cell0 {w : World} {g o : Nat} {k : UInt8} {r : List UInt8} (h : Row w g o (k :: r)) : w.cell? ⟨g, o, none⟩ = some (.int .u8 (k.toNat : Int)) := by
  have := h.cell 0 (by simp)
  simpa using this

set_option maxHeartbeats 400000 in
theorem num_big (b : Nat) (k : UInt8) (r : List UInt8) (x : Bool) (w : World) (h : RdAt b (k :: r) x w) (hk : 8 < k.toNat) :
    Calls Try.prog 26 #[.func (.func 33) #[.pointer (some ⟨b, 0, none⟩)] #[]] w (okNum b (k :: r) x w) := by
  obtain ⟨g, o, cap, hR⟩ := h
  have hki : (8 : Int) < (k.toNat : Int) := by omega
  have hnone : rdNum (k :: r) = none := by simp [rdNum, hk]
  have Hn := Lib.hid hnone
  clear hnone
  go_enter Try.func26, Try.ntmps26
  go_wp2_with (go_at_call 33; refine (take_yes b g o cap (k :: r) x 1 _ hR (by decide) (by simp)).mono ?_)
  rintro e w1 ⟨rfl, h1, h2, h3⟩
  have hc : w1.cell? ⟨g, o, none⟩ = some (.int .u8 (k.toNat : Int)) := Row.cell0 (r := []) h3
  have H1 := Lib.hid h1
  have H2 := Lib.hid h2
  clear h1 h2 h3
  go_wp2
  go_ret2
  exact ⟨H2.out, .inr ⟨Hn.out, rfl, r, ⟨_, _, _, H1.out⟩⟩⟩

set_option maxHeartbeats 400000 in
theorem num_short (b : Nat) (k : UInt8) (r : List UInt8) (x : Bool) (w : World) (h : RdAt b (k :: r) x w) (hk : k.toNat ≤ 8) (hr : r.length < k.toNat) :
    Calls Try.prog 26 #[.func (.func 33) #[.pointer (some ⟨b, 0, none⟩)] #[]] w (okNum b (k :: r) x w) := by
  obtain ⟨g, o, cap, hR⟩ := h
  have hki : ¬ (8 : Int) < (k.toNat : Int) := by omega
  have hnone : rdNum (k :: r) = none := by simp [rdNum, Nat.not_lt.2 hk, hr]
  have Hn := Lib.hid hnone
  clear hnone
  go_enter Try.func26, Try.ntmps26
  go_wp2_with (go_at_call 33; refine (take_yes b g o cap (k :: r) x 1 _ hR (by decide) (by simp)).mono ?_)
  rintro e w1 ⟨rfl, h1, h2, h3⟩
  have hc : w1.cell? ⟨g, o, none⟩ = some (.int .u8 (k.toNat : Int)) := Row.cell0 (r := []) h3
  have H1 := Lib.hid h1
  have H2 := Lib.hid h2
  clear h1 h2 h3
  go_wp2_with (go_at_call 33; refine (take_no b g _ _ r x _ _ H1.out (by omega)).mono ?_; rintro e w' ⟨rfl, rfl⟩)
  go_ret2
  exact ⟨H2.out, .inr ⟨Hn.out, rfl, r, ⟨_, _, _, H1.out⟩⟩⟩

set_option maxHeartbeats 400000 in
theorem num_zero (b : Nat) (k : UInt8) (r : List UInt8) (x : Bool) (w : World) (h : RdAt b (k :: r) x w) (hk : k.toNat ≤ 8) (hr : k.toNat ≤ r.length) (h0 : (r.take k.toNat).head? = some 0) :
    Calls Try.prog 26 #[.func (.func 33) #[.pointer (some ⟨b, 0, none⟩)] #[]] w (okNum b (k :: r) x w) := by
  obtain ⟨g, o, cap, hR⟩ := h
  have hki : ¬ (8 : Int) < (k.toNat : Int) := by omega
  have hnone : rdNum (k :: r) = none := by simp [rdNum, Nat.not_lt.2 hk, Nat.not_lt.2 hr]; exact h0
  have Hn := Lib.hid hnone
  have hkp : (0 : Int) < (k.toNat : Int) := by
    have : k.toNat ≠ 0 := by
      intro e
      rw [e] at h0
      simp at h0
    omega
  have H0 := Lib.hid h0
  clear hnone h0
  go_enter Try.func26, Try.ntmps26
  go_wp2_with (go_at_call 33; refine (take_yes b g o cap (k :: r) x 1 _ hR (by decide) (by simp)).mono ?_)
  rintro e w1 ⟨rfl, h1, h2, h3⟩
  have hc : w1.cell? ⟨g, o, none⟩ = some (.int .u8 (k.toNat : Int)) := Row.cell0 (r := []) h3
  obtain ⟨o1, c1, h1⟩ : ∃ o1 c1, RdOf b g o1 c1 r x w1 := ⟨_, _, h1⟩
  have H1 := Lib.hid h1
  have H2 := Lib.hid h2
  clear h1 h2 h3
  go_wp2_with (go_at_call 33; refine (take_yes b g o1 c1 r x (k.toNat : Int) _ H1.out (by omega) (by omega)).mono ?_)
  rintro e w2 ⟨rfl, h1, h2, h3⟩
  rw [Int.toNat_natCast] at h1 h3
  have hc0 : w2.cell? ⟨g, o1, none⟩ = some (.int .u8 0) := by
    have e0 := H0.out
    cases hd : r.take k.toNat with
    | nil => rw [hd] at e0; simp at e0
    | cons y q =>
      rw [hd] at e0 h3
      simp at e0
      subst e0
      exact Row.cell0 h3
  have H3 := Lib.hid h1
  have H4 := Lib.hid h2
  clear h1 h2 h3 hc
  go_wp2
  go_ret2
  exact ⟨grown_trans H2.out H4.out, .inr ⟨Hn.out, rfl, _, ⟨_, _, _, H3.out⟩⟩⟩

end Go.Proofs.Ytijjpnpjdnddoaa
