/- What the document's own sum does. -/
import Derived.Test.YtpjjmaknajjimaaDoorCSum
namespace Go.Proofs.YtpjjmaknajjimaaDoor
open Go.RowKit

theorem bsteps_succ (k n : Nat) : bsteps (k + 1) n = bstep (bsteps k n) := bsteps_add 1 k n

/-- In a round over the eight bits. -/
def RBitRel (s : ByteArray) (x k : Nat) (n j : Value) : Prop :=
  ∃ i : Nat, i ≤ 8 ∧ j = .int .i64 (i : Int) ∧ n = .int .u32 (bsteps i x : Int) ∧ k < s.size

/-- In a round over the bytes. -/
def RSumRel (s : ByteArray) (n i : Value) : Prop :=
  ∃ k : Nat, k ≤ s.size ∧ i = .int .i64 (k : Int) ∧ n = .int .u32 (crcF 4294967295 ((bl s).take k) : Int)

theorem and_one (m : Nat) (hm : m < 4294967296) : bits .and .u32 (m : Int) 1 = ((m % 2 : Nat) : Int) := by
  rw [show (1 : Int) = ((1 : Nat) : Int) from rfl, u32_and_nat _ _ hm (by omega), nat_mask1]

set_option maxHeartbeats 800000 in
theorem rsum_any (s : ByteArray) (w : World) (hs : s.size ≤ 9223372036854775807) :
    Calls Tryd.prog 26 #[.string s] w fun e w' => e = .returned (.int .u32 (crcSum (bl s) : Int)) ∧ w = w' := by
  go_enter Tryd.func26, Tryd.ntmps26
  go_wp2
  go_loop [3, 4] (fun n i => RSumRel s n i) (fun _ i => s.size - (intOf i).toNat)
  case atStart => exact ⟨0, Nat.zero_le _, rfl, rfl⟩
  case round =>
    obtain ⟨k, hk, rfl, rfl⟩ := hrel
    have hn := crcF_lt ((bl s).take k) 4294967295 (by omega)
    by_cases hlt : k < s.size
    · have hb := u8_lt s[k]
      have hx : bits .xor .u32 (crcF 4294967295 ((bl s).take k) : Int) (s[k].toNat : Int) = ((crcF 4294967295 ((bl s).take k) ^^^ s[k].toNat : Nat) : Int) := u32_xor_nat _ _ hn (by omega)
      have hst : crcF 4294967295 ((bl s).take (k + 1)) = bsteps 8 (crcF 4294967295 ((bl s).take k) ^^^ s[k].toNat) := by
        rw [ctake_snoc s k hlt, crcF_snoc]; rfl
      have hxl := xor_byte_lt _ s[k] hn
      have Hst := Lib.hid hst
      clear hst
      go_wp2
      generalize (crcF 4294967295 ((bl s).take k) ^^^ s[k].toNat) = x at *
      clear hx
      go_loop [3, 5] (fun n j => RBitRel s x k n j) (fun _ j => 8 - (intOf j).toNat)
      case atStart => exact ⟨0, by omega, rfl, rfl, hlt⟩
      case round =>
        obtain ⟨i, hi, rfl, rfl, _⟩ := hrel
        by_cases hlt8 : i < 8
        · have hm := bsteps_lt i x hxl
          have ha := and_one _ hm
          have hsu := bsteps_succ i x
          have hsb := bstep_eq (bsteps i x)
          rw [← hsu] at hsb
          have Hsb := Lib.hid hsb
          clear hsu hsb
          rcases (show bsteps i x % 2 = 1 ∨ bsteps i x % 2 = 0 from by omega) with h2 | h2
          · rw [h2] at ha
            have hx2 : bits .xor .u32 ((bsteps i x : Int) / 2) 3988292384 = ((bsteps (i + 1) x : Nat) : Int) := by
              rw [Hsb.out, if_pos h2, show (bsteps i x : Int) / 2 = ((bsteps i x / 2 : Nat) : Int) from by omega, show (3988292384 : Int) = ((3988292384 : Nat) : Int) from rfl, u32_xor_nat _ _ (by omega) (by omega)]
            clear h2
            go_wp2
            go_round
            case rel => exact ⟨i + 1, by omega, by go_num, rfl, hlt⟩
            case measure => simp [intOf]; omega
          · rw [h2] at ha
            have hx2 : ((bsteps (i + 1) x : Nat) : Int) = (bsteps i x : Int) / 2 := by
              rw [Hsb.out, if_neg (by omega)]; simp
            have Hx2 := Lib.hid hx2
            clear h2 hx2
            go_wp2
            go_round
            case rel => exact ⟨i + 1, by omega, by go_num, by rw [Hx2.out], hlt⟩
            case measure => simp [intOf]; omega
        · have hi8 : i = 8 := by omega
          have H8 := Lib.hid hi8
          clear hi8
          go_wp2
          go_round
          case rel => exact ⟨k + 1, by omega, by go_num, by rw [Hst.out, H8.out]⟩
          case measure => simp [intOf]; omega
    · have hk' : k = s.size := by omega
      subst hk'
      rw [List.take_of_length_le (by rw [bl_len]; omega)] at *
      have hx : bits .xor .u32 (crcF 4294967295 (bl s) : Int) 4294967295 = (crcSum (bl s) : Int) := by
        rw [show (4294967295 : Int) = ((4294967295 : Nat) : Int) from rfl, u32_xor_nat _ _ hn (by omega)]; rfl
      go_wp2
      go_ret
      exact ⟨rfl, rfl⟩

end Go.Proofs.YtpjjmaknajjimaaDoor
