/- What inside and Size of package frame do, and the document's own Size. -/
import Derived.Test.YtpjjmaknajjimaaDoorFMem
import Derived.BigQuiet
import Derived.Laws.BitsAllLaws
namespace Go.Proofs.YtpjjmaknajjimaaDoor
open Go.RowKit

/-- A text, if there is one; else no bytes. -/
def okOpt (r : Option (List UInt8)) (w : World) (e : Ending) (w' : World) : Prop :=
  e = .returned (.tuple #[.string (str (r.getD [])), .bool r.isSome]) ∧ Below w.heap.size w w'

theorem wrap_i64_nat (n : Nat) (h : n < 9223372036854775808) : IntKind.i64.wrap (n : Int) = (n : Int) := by
  have e : (n : Int) % 2 ^ 64 = n := Int.emod_eq_of_lt (by omega) (by omega)
  simp only [IntKind.wrap, IntKind.bits, IntKind.signed, e]
  rw [if_neg]
  simp
  omega

theorem bits_len (a b : Nat) (ha : a < 256) (hb : b < 256) : bits .or .i64 ((a : Int) * 256) (b : Int) = ((256 * a + b : Nat) : Int) := by
  have e : ((a : Int) * 256) = ((a * 256 : Nat) : Int) := by omega
  rw [e]
  show IntKind.i64.wrap ((BitVec.ofInt 64 ((a * 256 : Nat) : Int) ||| BitVec.ofInt 64 (b : Int)).toNat : Int) = _
  rw [BitVec.toNat_or, ofInt_u64 _ (by omega), ofInt_u64 b (by omega)]
  have e2 : a * 256 ||| b = 256 * a + b := by
    rw [show a * 256 = a <<< 8 from by rw [Nat.shiftLeft_eq], ← Nat.shiftLeft_add_eq_or_of_lt (by omega), Nat.shiftLeft_eq]
    omega
  rw [e2]
  exact wrap_i64_nat _ (by omega)

set_option maxHeartbeats 400000 in
theorem inside_short (s : ByteArray) (w : World) (h6 : s.size < 6) :
    Calls Tryd.prog 21 #[.string s] w (okOpt (insB (bl s)) w) := by
  rw [insB_short (bl s) (by rw [bl_len]; exact h6)]
  go_enter Tryd.func21, Tryd.ntmps21
  go_wp2
  go_ret2
  exact ⟨rfl, Below.refl _ _⟩

set_option maxHeartbeats 400000 in
theorem inside_long (s : ByteArray) (w : World) (hs : s.size ≤ 140737488355328) (h6 : 6 ≤ s.size) :
    Calls Tryd.prog 21 #[.string s] w (okOpt (insB (bl s)) w) := by
  have hi := insB_eq (bl s) (by rw [bl_len]; exact h6)
  have h0 := (s[0]'(by omega)).toNat_lt
  have h1 := (s[1]'(by omega)).toNat_lt
  have hbits := bits_len _ _ h0 h1
  obtain ⟨n, hn⟩ : ∃ n : Nat, n = 256 * (s[0]'(by omega)).toNat + (s[1]'(by omega)).toNat := ⟨_, rfl⟩
  have e0 : (bl s)[0]'(by rw [bl_len]; omega) = s[0]'(by omega) := rfl
  have e1 : (bl s)[1]'(by rw [bl_len]; omega) = s[1]'(by omega) := rfl
  rw [e0, e1, ← hn, bl_len] at hi
  rw [← hn] at hbits
  have w0 : wrap64 ((s[0]'(by omega)).toNat : Int) = ((s[0]'(by omega)).toNat : Int) := by unfold wrap64; omega
  have w1 : wrap64 ((s[1]'(by omega)).toNat : Int) = ((s[1]'(by omega)).toNat : Int) := by unfold wrap64; omega
  have w2 : wrap64 (((s[0]'(by omega)).toNat : Int) * 256) = ((s[0]'(by omega)).toNat : Int) * 256 := by unfold wrap64; omega
  have hw : bits .or .i64 (wrap64 (wrap64 ((s[0]'(by omega)).toNat : Int) * 256)) (wrap64 ((s[1]'(by omega)).toNat : Int)) = (n : Int) := by rw [w0, w1, w2]; exact hbits
  have Hw := Lib.hid hw
  clear hbits w0 w1 w2 hw
  have hnl : n < 65536 := by omega
  have j0 : 0 < s.size := by omega
  have j1 : 1 < s.size := by omega
  have i0 : (0 : Int) < (s.size : Int) := by omega
  have i1 : (1 : Int) < (s.size : Int) := by omega
  have Hi := Lib.hid hi
  clear hi hn e0 e1 h0 h1
  go_enter Tryd.func21, Tryd.ntmps21
  go_wp2
  go_quiet (fail)
  rw [Hw.out]
  have hz : (s.extract 6 s.size).size = s.size - 6 := by simp
  have hx : bl (s.extract 6 s.size) = (bl s).drop 6 := bl_from s 6
  have Hx := Lib.hid hx
  clear hx
  generalize s.extract 6 s.size = t at *
  by_cases hlt : s.size - 6 < n
  · have hc : (t.size : Int) < (n : Int) := by omega
    go_wp2
    go_ret2
    exact ⟨by rw [Hi.out, if_pos hlt]; rfl, below_drewN (Below.refl _ _) _⟩
  · have hc : ¬ (t.size : Int) < (n : Int) := by omega
    go_wp2
    go_ret2
    refine ⟨?_, below_drewN (Below.refl _ _) _⟩
    rw [Hi.out, if_neg hlt]
    have : t.extract 0 n = str (((bl s).drop 6).take n) := by rw [← Hx.out, ← bl_upto, str_bl]
    rw [this]
    rfl

theorem inside_any (s : ByteArray) (w : World) (hs : s.size ≤ 140737488355328) :
    Calls Tryd.prog 21 #[.string s] w (okOpt (insB (bl s)) w) := by
  by_cases h : s.size < 6
  · exact inside_short s w h
  · exact inside_long s w hs (by omega)

theorem fsize_any (s : ByteArray) (w : World) (hs : s.size ≤ 4611686018427387904) :
    Calls Tryd.prog 11 #[.string s] w fun e w' => e = .returned (.int .i64 (nsec s.size : Int)) ∧ w = w' := by
  have e1 : (nsec s.size : Int) = (s.size : Int) / 32 + (6 + (s.size : Int) % 32 + 32 - 1) / 32 := by unfold nsec; omega
  have E1 := Lib.hid e1
  clear e1
  go_enter Tryd.func11, Tryd.ntmps11
  go_wp2
  go_ret
  exact ⟨by rw [E1.out]; rfl, rfl⟩

theorem rsize_any (s : ByteArray) (w : World) (hs : s.size ≤ 4611686018427387904) :
    Calls Tryd.prog 12 #[.string s] w fun e w' => e = .returned (.int .i64 (nsec s.size : Int)) ∧ w = w' := by
  by_cases h : (s.size + 6) / 32 * 32 < s.size + 6
  · have e1 : (nsec s.size : Int) = (6 + (s.size : Int)) / 32 + 1 := by unfold nsec; omega
    have hc : (6 + (s.size : Int)) / 32 * 32 < 6 + (s.size : Int) := by omega
    have E1 := Lib.hid e1
    clear e1
    go_enter Tryd.func12, Tryd.ntmps12
    go_wp2
    go_ret
    exact ⟨by rw [E1.out]; rfl, rfl⟩
  · have e1 : (nsec s.size : Int) = (6 + (s.size : Int)) / 32 := by unfold nsec; omega
    have hc : ¬ (6 + (s.size : Int)) / 32 * 32 < 6 + (s.size : Int) := by omega
    have E1 := Lib.hid e1
    clear e1
    go_enter Tryd.func12, Tryd.ntmps12
    go_wp2
    go_ret
    exact ⟨by rw [E1.out]; rfl, rfl⟩

end Go.Proofs.YtpjjmaknajjimaaDoor
