/- What the calls that sum bytes up do: the closure of Sum, Sum, tail and Seal of package crc. -/
import Derived.Test.YtpjjmaknajjimaaDoorProg
import Derived.Test.YtpjjmaknajjimaaDoorCPure
import Derived.Test.YtpjjmaknajjimaaDoorStr
import Derived.WalkKit
import Derived.WalkSpells
import Derived.WalkLawsBesides
import Derived.BigCall
import Derived.Lib.Hide
namespace Go.Proofs.YtpjjmaknajjimaaDoor
open Go.RowKit

/-- The sums of four bits each stand in their variable. -/
def CTab (w : World) : Prop := 0 < w.heap.size ∧ ∀ i, i < 16 → w.cell? ⟨0, i, none⟩ = some (.int .u32 ((tabL.getD i 0 : Nat) : Int))

theorem CTab.below {w w' : World} {B : Nat} (h : CTab w) (hb : Below B w w') (hB : 0 < B) : CTab w' :=
  ⟨Nat.lt_of_lt_of_le h.1 hb.size, fun i hi => by rw [hb.cell (p := ⟨0, i, none⟩) hB]; exact h.2 i hi⟩

def okCput (b m : Nat) (w : World) (e : Ending) (w' : World) : Prop :=
  e = .returned (.tuple #[]) ∧ Below b w w' ∧ w'.cell? ⟨b, 0, none⟩ = some (.int .u32 (m : Int)) ∧ w'.frozen? ⟨b, 0, none⟩ = false

theorem tabL_lt (i : Nat) (h : i < 16) : tabL.getD i 0 < 4294967296 := by
  have : ∀ i : Nat, i < 16 → tabL.getD i 0 < 4294967296 := by decide
  exact this i h

theorem cput_index (n f : Nat) (hf : f < 256) : bits .and .u8 (bits .xor .u8 ((n : Int) % 256) (f : Int)) 15 = (((n % 256 ^^^ f) % 16 : Nat) : Int) := by
  have e : (n : Int) % 256 = ((n % 256 : Nat) : Int) := by omega
  have hx : n % 256 ^^^ f < 256 := Nat.xor_lt_two_pow (n := 8) (by omega) (by omega)
  rw [e, u8_xor_nat _ _ (by omega) hf, show (15 : Int) = ((15 : Nat) : Int) from rfl, u8_and_nat _ _ hx (by omega), nat_mask4]

theorem cput_sum (n f : Nat) (hn : n < 4294967296) : bits .xor .u32 ((n : Int) / 16) ((tabL.getD ((n % 256 ^^^ f) % 16) 0 : Nat) : Int) = ((halfStep n f : Nat) : Int) := by
  have e : (n : Int) / 16 = ((n / 16 : Nat) : Int) := by omega
  rw [e, u32_xor_nat _ _ (by omega) (tabL_lt _ (Nat.mod_lt _ (by omega)))]
  rfl

set_option maxHeartbeats 400000 in
theorem cput_any (b n f : Nat) (w : World) (hn : n < 4294967296) (hf : f < 256) (ht : CTab w)
    (hc : w.cell? ⟨b, 0, none⟩ = some (.int .u32 (n : Int))) (hz : w.frozen? ⟨b, 0, none⟩ = false) :
    Calls Tryd.prog 23 #[.int .u8 (f : Int), .pointer (some ⟨b, 0, none⟩)] w (okCput b (halfStep n f) w) := by
  have hi := cput_index n f hf
  have hx := cput_sum n f hn
  have hl : (n % 256 ^^^ f) % 16 < 16 := Nat.mod_lt _ (by omega)
  have hg := ht.2 _ hl
  generalize halfStep n f = m at *
  generalize (n % 256 ^^^ f) % 16 = i at *
  generalize tabL.getD i 0 = t at *
  have hli : (i : Int) < 16 := by omega
  have HT := Lib.hid ht
  clear ht
  go_enter Tryd.func23, Tryd.ntmps23
  go_wp2
  go_region
  all_goals
    go_end0
    exact ⟨rfl, ((Below.refl b w).setCell (p := ⟨b, 0, none⟩) (Nat.le_refl b) _).drew, by go_simp, by go_simp⟩

theorem cput_hi (b n f : Nat) (w : World) (hn : n < 4294967296) (hf : f < 256) (ht : CTab w)
    (hc : w.cell? ⟨b, 0, none⟩ = some (.int .u32 (n : Int))) (hz : w.frozen? ⟨b, 0, none⟩ = false) :
    Calls Tryd.prog 23 #[.int .u8 ((f : Int) / 16), .pointer (some ⟨b, 0, none⟩)] w (okCput b (halfStep n (f / 16)) w) := by
  have h := cput_any b n (f / 16) w hn (by omega) ht hc hz
  rwa [show ((f / 16 : Nat) : Int) = (f : Int) / 16 from by omega] at h

/-- In a round of Sum: what is summed up of the first k bytes lies in the call's own block. -/
def CSumRel (s : ByteArray) (w : World) (i : Value) (wr : World) : Prop :=
  ∃ k : Nat, k ≤ s.size ∧ i = .int .i64 (k : Int) ∧ Below w.heap.size w wr ∧ w.heap.size < wr.heap.size ∧ wr.cell? ⟨w.heap.size, 0, none⟩ = some (.int .u32 (crcF 4294967295 ((bl s).take k) : Int)) ∧ wr.frozen? ⟨w.heap.size, 0, none⟩ = false

theorem ctake_snoc (s : ByteArray) (k : Nat) (h : k < s.size) : (bl s).take (k + 1) = (bl s).take k ++ [s[k]] := by
  unfold bl
  rw [List.take_succ_eq_append_getElem (by simpa using h)]; rfl

def okCSum (n : Nat) (w : World) (e : Ending) (w' : World) : Prop := e = .returned (.int .u32 (n : Int)) ∧ Below w.heap.size w w'

set_option maxHeartbeats 400000 in
theorem csum_any (s : ByteArray) (w : World) (hs : s.size ≤ 9223372036854775807) (ht : CTab w) :
    Calls Tryd.prog 17 #[.string s] w (okCSum (crcSum (bl s)) w) := by
  have HT := Lib.hid ht
  have hgw := ht.1
  clear ht
  go_enter Tryd.func17, Tryd.ntmps17
  go_wp2
  have b0 : Below w.heap.size w (w.alloc (.cells #[.int .u32 4294967295] 38)) := (Below.refl _ _).alloc (Nat.le_refl _) _
  go_loopw [9] (fun i wr => CSumRel s w i wr) (fun i _ => s.size - (intOf i).toNat)
  case atStart => exact ⟨0, Nat.zero_le _, rfl, b0, by simp, by go_simp; rfl, by go_simp⟩
  case round =>
    obtain ⟨k, hk, rfl, hB, hS, hC, hF⟩ := hrel
    have hn := crcF_lt ((bl s).take k) 4294967295 (by omega)
    by_cases hlt : k < s.size
    · have hT1 := HT.out.below hB hgw
      have hb := s[k].toNat_lt
      have hsn := ctake_snoc s k hlt
      have hst : byteStep (crcF 4294967295 ((bl s).take k)) s[k] = crcF 4294967295 ((bl s).take (k + 1)) := by rw [hsn, crcF_snoc]
      rw [← halves] at hst
      have hn1 := halfStep_lt (crcF 4294967295 ((bl s).take k)) s[k].toNat hn
      have Hst := Lib.hid hst
      clear hsn hst
      go_wp2_with (go_at_call 23; refine (cput_any w.heap.size _ s[k].toNat _ hn (by omega) hT1 hC hF).mono ?_)
      rintro e W1 ⟨rfl, b1, c1, f1⟩
      have hT2 := hT1.below b1 hgw
      have hB1 := hB.trans b1
      have hS1 := b1.size
      clear hB b1 hC hF hT1
      go_wp2_with (go_at_call 23; refine (cput_hi w.heap.size _ s[k].toNat _ hn1 (by omega) hT2 c1 f1).mono ?_)
      rintro e W2 ⟨rfl, b2, c2, f2⟩
      have hB2 := hB1.trans b2
      have hS2 := b2.size
      rw [Hst.out] at c2
      clear hB1 b2 c1 f1 hT2
      go_wp2
      go_roundw
      case rel => exact ⟨k + 1, by omega, by go_num, hB2, by omega, c2, f2⟩
      case measure => simp [intOf]; omega
    · have hk' : k = s.size := by omega
      subst hk'
      rw [List.take_of_length_le (by rw [bl_len]; omega)] at hC hn
      have hx : bits .xor .u32 IntKind.u32.max (crcF 4294967295 (bl s) : Int) = (crcSum (bl s) : Int) := by
        rw [show IntKind.u32.max = ((4294967295 : Nat) : Int) from rfl, u32_xor_nat _ _ (by omega) hn, Nat.xor_comm]; rfl
      go_wp2
      go_ret
      exact ⟨rfl, hB⟩

end Go.Proofs.YtpjjmaknajjimaaDoor
