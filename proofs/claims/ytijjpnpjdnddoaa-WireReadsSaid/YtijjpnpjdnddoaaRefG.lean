/- What reading a good number off the document's own reader does: Num of package stemmaref01. -/
import Derived.Test.YtijjpnpjdnddoaaRefN
namespace Go.Proofs.Ytijjpnpjdnddoaa
open Go.RowKit

theorem bl_extract (s : ByteArray) (k : Nat) : bl (s.extract k s.size) = (bl s).drop k := by
  obtain ⟨⟨l⟩⟩ := s
  simp only [bl, ByteArray.size]
  simp
  exact List.take_of_length_le (by simp)

/-- What stands behind the first byte. -/
def restB (s : ByteArray) : List UInt8 := (bl s).drop 1
theorem restB_len (s : ByteArray) : (restB s).length = s.size - 1 := by unfold restB; rw [List.length_drop, bl_len]
theorem restB_get (s : ByteArray) (j : Nat) (h : j + 1 < s.size) : (restB s)[j]'(by rw [restB_len]; omega) = s[j + 1] := by
  unfold restB
  rw [List.getElem_drop]
  have := get_bl s (j + 1) h
  rw [← this]
  congr 1
  omega

def okQYes (c : Nat) (s : ByteArray) (k : Nat) (w : World) (e : Ending) (w' : World) : Prop :=
  w.grownBy w' (some c) ∧ e = .returned (.int .u64 ((val ((restB s).take k) : Nat) : Int)) ∧ QAt c (s.extract (1 + k) s.size) false w'

def QRel (d : List UInt8) (k : Nat) (n i : Value) : Prop := ∃ j : Nat, j ≤ k ∧ i = .int .i64 ((j : Int) + 1) ∧ n = .int .u64 ((val (d.take j) : Nat) : Int)

set_option maxHeartbeats 1600000 in
theorem q_good (c : Nat) (s : ByteArray) (w : World) (h : QAt c s false w) (hp : 1 < s.size) (hk : s[0].toNat ≤ 8) (hl : 1 + s[0].toNat ≤ s.size) (hk0 : 0 < s[0].toNat) (h0 : s[1].toNat ≠ 0) :
    Calls Try.prog 15 #[.pointer (some ⟨c, 0, none⟩)] w (okQYes c s s[0].toNat w) := by
  obtain ⟨h1, h2, h3, h4⟩ := h.cells
  have hp0 : 0 < s.size := by omega
  have hpi : (0 : Int) < (s.size : Int) := by omega
  have e1 := Lib.hid (show ((s.size : Int) == 0) = false by rw [beq_eq_false_iff_ne]; omega)
  have hpi1 : (1 : Int) < (s.size : Int) := by omega
  have e2 := Lib.hid (show decide ((8 : Int) < (s[0].toNat : Int)) = false by rw [decide_eq_false_iff_not]; omega)
  have e3 := Lib.hid (show decide ((s.size : Int) < (1 : Int) + (s[0].toNat : Int)) = false by rw [decide_eq_false_iff_not]; omega)
  have e4 := Lib.hid (show decide ((0 : Int) < (s[0].toNat : Int)) = true by rw [decide_eq_true_iff]; omega)
  have e5 := Lib.hid (show ((s[1].toNat : Int) == 0) = false by rw [beq_eq_false_iff_ne]; omega)
  clear h0
  go_enter Try.func15, Try.ntmps15
  go_wp2
  have f1 := e1.out
  have f2 := e2.out
  have f3 := e3.out
  have f4 := e4.out
  have f5 := e5.out
  go_quiet (fail)
  obtain ⟨W, hW⟩ : ∃ W, W = w.drewN nq := ⟨_, rfl⟩
  have hq : QAt c s false W := by rw [hW]; exact h
  have hgW := Lib.hid (show w.grownBy W (some c) from by rw [hW]; exact grown_drewN (grown_refl w _) nq)
  rw [← hW]
  clear hW h h1 h2 h3 h4
  obtain ⟨h1, h2, h3, h4⟩ := hq.cells
  have hx : (s.extract (1 + s[0].toNat) s.size).size ≤ 1000000 := by have := hq.2; simp; omega
  have HQ := Lib.hid (hq.set0 _ hx)
  have HG := Lib.hid (grown_set c 0 W (.string (s.extract (1 + s[0].toNat) s.size)))
  have hs1 : s.size ≤ 1000000 := hq.2
  have hdl := Lib.hid (restB_len s)
  have HL := Lib.hid hl
  clear hq
  go_wp2
  go_loop [3, 5] (fun n i => QRel (restB s) s[0].toNat n i) (fun _ i => s[0].toNat + 1 - (intOf i).toNat)
  case atStart => exact ⟨0, Nat.zero_le _, rfl, rfl⟩
  case round =>
    obtain ⟨j, hj, rfl, rfl⟩ := hrel
    have hl2 := HL.out
    by_cases hlt : j < s[0].toNat
    · have hd := hdl.out
      have hs := val_step (restB s) j (by omega)
      have hb : val ((restB s).take j) < 72057594037927936 := by
        have a := val_lt ((restB s).take j)
        have b : 256 ^ ((restB s).take j).length ≤ 256 ^ 7 := Nat.pow_le_pow_right (by omega) (by rw [List.length_take]; omega)
        have e : (256 : Nat) ^ 7 = 72057594037927936 := by decide
        omega
      have hji : j + 1 < s.size := by omega
      have hg := restB_get s j hji
      rw [hg] at hs
      have Hs := Lib.hid hs
      have hzb : s[j + 1].toNat < 256 := s[j + 1].toNat_lt
      have hji2 : (j : Int) + 1 < (s.size : Int) := by omega
      clear hs hg hd
      generalize val ((restB s).take j) = v at *
      go_wp2
      exact ⟨⟨j + 1, by omega, by go_num, by rw [Hs.out]; go_num⟩, by simp [intOf]; omega⟩
    · have hjk : s[0].toNat ≤ j := by omega
      have hjj : j = s[0].toNat := by omega
      have Hj := Lib.hid hjj
      clear hjj
      go_wp2
      go_ret
      exact ⟨grown_trans hgW.out HG.out, by rw [← Hj.out]; rfl, HQ.out⟩

end Go.Proofs.Ytijjpnpjdnddoaa
