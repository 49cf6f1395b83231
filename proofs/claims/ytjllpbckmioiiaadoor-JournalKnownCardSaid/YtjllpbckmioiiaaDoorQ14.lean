/- FEq, CSum, FPack, FUnpack, JMem. -/
import Derived.Test.YtjllpbckmioiiaaDoorQ0
import Derived.Test.YtjllpbckmioiiaaDoorQ10
import Derived.Test.YtjllpbckmioiiaaDoorQ12
import Derived.Test.YtjllpbckmioiiaaDoorQ13
import Derived.Test.YtjllpbckmioiiaaDoorQ5
import Derived.Test.YtjllpbckmioiiaaDoorQ7
import Derived.BigQuiet
import Derived.Test.YtjllpbckmioiiaaDoorProg
import Derived.WalkKit
import Derived.WalkSpells
import Derived.WalkLawsBesides
import Derived.BigCall
import Derived.Lib.Hide
import Derived.LoopTactic
/- What slices.Equal and the document's own Texts do. -/
namespace Go.Proofs.YtjllpbckmioiiaaDoor
open Go.RowKit
set_option maxRecDepth 100000

def okBool (b : Bool) (w : World) (e : Ending) (w' : World) : Prop := e = .returned (.bool b) ∧ Below w.heap.size w w'

def FEqRel (ps qs : List (List UInt8)) (w : World) (i : Value) (wr : World) : Prop :=
  ∃ k : Nat, k ≤ ps.length ∧ i = .int .i64 (k : Int) ∧ ps.take k = qs.take k ∧ Below w.heap.size w wr

theorem take_snoc_eq (ps qs : List (List UInt8)) (k : Nat) (h1 : k < ps.length) (h2 : k < qs.length) (h : ps.take k = qs.take k) (e : ps[k] = qs[k]) : ps.take (k + 1) = qs.take (k + 1) := by
  rw [List.take_succ_eq_append_getElem h1, List.take_succ_eq_append_getElem h2, h, e]

set_option maxHeartbeats 800000 in
theorem equal_any (a b : Option Addr) (c d : Nat) (ps qs : List (List UInt8)) (w : World) (hp : StrsAt w a ps) (hq : StrsAt w b qs) (hl : ps.length ≤ 4611686018427387904) (hm : qs.length ≤ 4611686018427387904) :
    Calls Tryd.prog 76 #[.slice a ps.length c, .slice b qs.length d] w (okBool (decide (ps = qs)) w) := by
  have HP := Lib.hid hp
  have HQ := Lib.hid hq
  clear hp hq
  by_cases hlen : ps.length = qs.length
  · go_enter Tryd.func76, Tryd.ntmps76
    go_wp2
    go_loopw [13] (fun i wr => FEqRel ps qs w i wr) (fun i _ => ps.length - (intOf i).toNat)
    case atStart => exact ⟨0, Nat.zero_le _, rfl, rfl, Below.refl _ _⟩
    case round =>
      obtain ⟨k, hk, rfl, ht, hB⟩ := hrel
      have Ht := Lib.hid ht
      clear ht
      by_cases hlt : k < ps.length
      · have hlq : k < qs.length := by omega
        obtain ⟨b1, o1, rfl, hb1, hc1⟩ := HP.out k hlt
        obtain ⟨b2, o2, rfl, hb2, hc2⟩ := HQ.out k hlq
        have hcell1 : wr.cell? ⟨b1, o1 + k, none⟩ = some (.string (str ps[k])) := by rw [hB.cell (p := ⟨b1, o1 + k, none⟩) hb1]; exact hc1
        have hcell2 : wr.cell? ⟨b2, o2 + k, none⟩ = some (.string (str qs[k])) := by rw [hB.cell (p := ⟨b2, o2 + k, none⟩) hb2]; exact hc2
        have hbw1 : b1 < wr.heap.size := Nat.lt_of_lt_of_le hb1 hB.size
        have hbw2 : b2 < wr.heap.size := Nat.lt_of_lt_of_le hb2 hB.size
        have hi1 : (k : Int) < (ps.length : Int) := by omega
        have hi2 : (k : Int) < (qs.length : Int) := by omega
        have hbq : ((str ps[k]).toList == (str qs[k]).toList) = decide (ps[k] = qs[k]) := by rw [beq_bl, bl_str]
        have Hbq := Lib.hid hbq
        clear hc1 hc2 hbq
        generalize str ps[k] = x at *
        generalize str qs[k] = y at *
        go_wp2
        go_quiet (fail)
        have hbq := Hbq.out
        generalize (x.toList == y.toList) = q at *
        have hB2 := below_drewN hB nq
        by_cases he : ps[k] = qs[k]
        · have hqt : q = true := by rw [hbq]; simpa using he
          have hsn := Lib.hid (take_snoc_eq ps qs k hlt hlq Ht.out he)
          clear hbq he
          subst hqt
          go_wp2
          go_roundw
          case rel => exact ⟨k + 1, by omega, by go_num, hsn.out, hB2⟩
          case measure => simp [intOf]; omega
        · have hqt : q = false := by rw [hbq]; simpa using he
          have hne : decide (ps = qs) = false := by
            simp only [decide_eq_false_iff_not]
            rintro rfl
            exact he rfl
          have Hne := Lib.hid hne
          clear hbq he hne
          subst hqt
          go_wp2
          go_ret
          exact ⟨by rw [Hne.out]; rfl, hB2⟩
      · have hk' : k = ps.length := by omega
        have heq : decide (ps = qs) = true := by
          have := Ht.out
          rw [List.take_of_length_le (by omega), List.take_of_length_le (by omega)] at this
          simpa using this
        have Heq := Lib.hid heq
        clear heq
        go_wp2
        go_ret
        exact ⟨by rw [Heq.out]; rfl, hB⟩
  · have hne : decide (ps = qs) = false := by
      simp only [decide_eq_false_iff_not]
      rintro rfl
      exact hlen rfl
    have hli : ¬ (ps.length : Int) = (qs.length : Int) := by omega
    have Hne := Lib.hid hne
    clear hne
    go_enter Tryd.func76, Tryd.ntmps76
    go_wp2
    go_ret
    exact ⟨by rw [Hne.out]; rfl, Below.refl _ _⟩

end Go.Proofs.YtjllpbckmioiiaaDoor

/- What the calls that sum bytes up do: the closure of Sum, Sum, tail and Seal of package crc. -/
namespace Go.Proofs.YtjllpbckmioiiaaDoor
open Go.RowKit
set_option maxRecDepth 100000

/-- The sums of four bits each stand in their variable. -/
def CTab (w : World) : Prop := 0 < w.heap.size ∧ ∀ i, i < 16 → w.cell? ⟨0, i, none⟩ = some (.int .u32 ((tabL.getD i 0 : Nat) : Int))

theorem CTab.below {w w' : World} {B : Nat} (h : CTab w) (hb : Below B w w') (hB : 0 < B) : CTab w' :=
  ⟨Nat.lt_of_lt_of_le h.1 hb.size, fun i hi => by rw [hb.cell (p := ⟨0, i, none⟩) hB]; exact h.2 i hi⟩

def okCput (b m : Nat) (w : World) (e : Ending) (w' : World) : Prop :=
  e = .returned (.tuple #[]) ∧ Below b w w' ∧ w'.cell? ⟨b, 0, none⟩ = some (.int .u32 (m : Int)) ∧ w'.frozen? ⟨b, 0, none⟩ = false

theorem tabL_lt (i : Nat) (h : i < 16) : tabL.getD i 0 < 4294967296 := by
  have : ∀ i : Nat, i < 16 → tabL.getD i 0 < 4294967296 := by decide
  exact this i h

theorem cput_index (n f : Nat) (hf : f < 256) : bits .and .u8 (bits .xor .u8 ((n : Int) % 256) (f : Int)) 15 = (((n % 256 ^^^ f) % 16 : Nat) : Int) := by
  have e : (n : Int) % 256 = ((n % 256 : Nat) : Int) := by omega
  have hx : n % 256 ^^^ f < 256 := Nat.xor_lt_two_pow (n := 8) (by omega) (by omega)
  rw [e, u8_xor_nat _ _ (by omega) hf, show (15 : Int) = ((15 : Nat) : Int) from rfl, u8_and_nat _ _ hx (by omega), nat_mask4]

theorem cput_sum (n f : Nat) (hn : n < 4294967296) : bits .xor .u32 ((n : Int) / 16) ((tabL.getD ((n % 256 ^^^ f) % 16) 0 : Nat) : Int) = ((halfStep n f : Nat) : Int) := by
  have e : (n : Int) / 16 = ((n / 16 : Nat) : Int) := by omega
  rw [e, u32_xor_nat _ _ (by omega) (tabL_lt _ (Nat.mod_lt _ (by omega)))]
  rfl

set_option maxHeartbeats 400000 in
theorem cput_any (b n f : Nat) (w : World) (hn : n < 4294967296) (hf : f < 256) (ht : CTab w)
    (hc : w.cell? ⟨b, 0, none⟩ = some (.int .u32 (n : Int))) (hz : w.frozen? ⟨b, 0, none⟩ = false) :
    Calls Tryd.prog 63 #[.int .u8 (f : Int), .pointer (some ⟨b, 0, none⟩)] w (okCput b (halfStep n f) w) := by
  have hi := cput_index n f hf
  have hx := cput_sum n f hn
  have hl : (n % 256 ^^^ f) % 16 < 16 := Nat.mod_lt _ (by omega)
  have hg := ht.2 _ hl
  generalize halfStep n f = m at *
  generalize (n % 256 ^^^ f) % 16 = i at *
  generalize tabL.getD i 0 = t at *
  have hli : (i : Int) < 16 := by omega
  have HT := Lib.hid ht
  clear ht
  go_enter Tryd.func63, Tryd.ntmps63
  go_wp2
  go_region
  all_goals
    go_end0
    exact ⟨rfl, ((Below.refl b w).setCell (p := ⟨b, 0, none⟩) (Nat.le_refl b) _).drew, by go_simp, by go_simp⟩

theorem cput_hi (b n f : Nat) (w : World) (hn : n < 4294967296) (hf : f < 256) (ht : CTab w)
    (hc : w.cell? ⟨b, 0, none⟩ = some (.int .u32 (n : Int))) (hz : w.frozen? ⟨b, 0, none⟩ = false) :
    Calls Tryd.prog 63 #[.int .u8 ((f : Int) / 16), .pointer (some ⟨b, 0, none⟩)] w (okCput b (halfStep n (f / 16)) w) := by
  have h := cput_any b n (f / 16) w hn (by omega) ht hc hz
  rwa [show ((f / 16 : Nat) : Int) = (f : Int) / 16 from by omega] at h

/-- In a round of Sum: what is summed up of the first k bytes lies in the call's own block. -/
def CSumRel (s : ByteArray) (w : World) (i : Value) (wr : World) : Prop :=
  ∃ k : Nat, k ≤ s.size ∧ i = .int .i64 (k : Int) ∧ Below w.heap.size w wr ∧ w.heap.size < wr.heap.size ∧ wr.cell? ⟨w.heap.size, 0, none⟩ = some (.int .u32 (crcF 4294967295 ((bl s).take k) : Int)) ∧ wr.frozen? ⟨w.heap.size, 0, none⟩ = false

theorem ctake_snoc (s : ByteArray) (k : Nat) (h : k < s.size) : (bl s).take (k + 1) = (bl s).take k ++ [s[k]] := by
  unfold bl
  rw [List.take_succ_eq_append_getElem (by simpa using h)]; rfl

def okCSum (n : Nat) (w : World) (e : Ending) (w' : World) : Prop := e = .returned (.int .u32 (n : Int)) ∧ Below w.heap.size w w'

set_option maxHeartbeats 400000 in
theorem csum_any (s : ByteArray) (w : World) (hs : s.size ≤ 9223372036854775807) (ht : CTab w) :
    Calls Tryd.prog 46 #[.string s] w (okCSum (crcSum (bl s)) w) := by
  have HT := Lib.hid ht
  have hgw := ht.1
  clear ht
  go_enter Tryd.func46, Tryd.ntmps46
  go_wp2
  have b0 : Below w.heap.size w (w.alloc (.cells #[.int .u32 4294967295] 95)) := (Below.refl _ _).alloc (Nat.le_refl _) _
  go_loopw [9] (fun i wr => CSumRel s w i wr) (fun i _ => s.size - (intOf i).toNat)
  case atStart => exact ⟨0, Nat.zero_le _, rfl, b0, by simp, by go_simp; rfl, by go_simp⟩
  case round =>
    obtain ⟨k, hk, rfl, hB, hS, hC, hF⟩ := hrel
    have hn := crcF_lt ((bl s).take k) 4294967295 (by omega)
    by_cases hlt : k < s.size
    · have hT1 := HT.out.below hB hgw
      have hb := s[k].toNat_lt
      have hsn := ctake_snoc s k hlt
      have hst : byteStep (crcF 4294967295 ((bl s).take k)) s[k] = crcF 4294967295 ((bl s).take (k + 1)) := by rw [hsn, crcF_snoc]
      rw [← halves] at hst
      have hn1 := halfStep_lt (crcF 4294967295 ((bl s).take k)) s[k].toNat hn
      have Hst := Lib.hid hst
      clear hsn hst
      go_wp2_with (go_at_call 63; refine (cput_any w.heap.size _ s[k].toNat _ hn (by omega) hT1 hC hF).mono ?_)
      rintro e W1 ⟨rfl, b1, c1, f1⟩
      have hT2 := hT1.below b1 hgw
      have hB1 := hB.trans b1
      have hS1 := b1.size
      clear hB b1 hC hF hT1
      go_wp2_with (go_at_call 63; refine (cput_hi w.heap.size _ s[k].toNat _ hn1 (by omega) hT2 c1 f1).mono ?_)
      rintro e W2 ⟨rfl, b2, c2, f2⟩
      have hB2 := hB1.trans b2
      have hS2 := b2.size
      rw [Hst.out] at c2
      clear hB1 b2 c1 f1 hT2
      go_wp2
      go_roundw
      case rel => exact ⟨k + 1, by omega, by go_num, hB2, by omega, c2, f2⟩
      case measure => simp [intOf]; omega
    · have hk' : k = s.size := by omega
      subst hk'
      rw [List.take_of_length_le (by rw [bl_len]; omega)] at hC hn
      have hx : bits .xor .u32 IntKind.u32.max (crcF 4294967295 (bl s) : Int) = (crcSum (bl s) : Int) := by
        rw [show IntKind.u32.max = ((4294967295 : Nat) : Int) from rfl, u32_xor_nat _ _ (by omega) hn, Nat.xor_comm]; rfl
      go_wp2
      go_ret
      exact ⟨rfl, hB⟩

end Go.Proofs.YtjllpbckmioiiaaDoor

/- What Pack and Unpack of package frame do. -/
namespace Go.Proofs.YtjllpbckmioiiaaDoor
open Go.RowKit
set_option maxRecDepth 100000

/-- What Pack answers: nothing and ErrLong, or the sectors. -/
def okPack (s : ByteArray) (w : World) (e : Ending) (w' : World) : Prop :=
  ∃ v, e = .returned (.tuple #[v, .int .i64 0]) ∧ OwnsStrs w' w.heap.size v (secs (bl s)) ∧ Below w.heap.size w w'

theorem strs_three (a b : List UInt8) (s : ByteArray) (w : World) : StrsAt (w.alloc (.cells #[.string (str a), .string (str b), .string s] 9)) (some ⟨w.heap.size, 0, none⟩) [a, b, bl s] := by
  have := strsAt_new [a, b, bl s] w
  simp only [strVals, List.map_cons, List.map_nil, str_bl] at this
  exact this

theorem pack_long (s : ByteArray) (w : World) (hs : 8192 < s.size) :
    Calls Tryd.prog 29 #[.string s] w fun e w' => e = .returned (.tuple #[.slice none 0 0, .int .i64 3]) ∧ Below w.heap.size w w' := by
  have hc : (8192 : Int) < (s.size : Int) := by omega
  go_enter Tryd.func29, Tryd.ntmps29
  go_wp2
  go_ret2
  exact ⟨rfl, Below.refl _ _⟩

theorem raw_flatten (t : List UInt8) : [len2 t.length, be4 (crcSum t), t].flatten = rawB t := by simp [rawB, headB]

set_option maxHeartbeats 800000 in
theorem pack_any (s : ByteArray) (w : World) (hs : s.size ≤ 8192) (ht : CTab w) :
    Calls Tryd.prog 29 #[.string s] w (okPack s w) := by
  have HT := Lib.hid ht
  have hg := ht.1
  clear ht
  have hn := crcSum_lt (bl s)
  have hfl := raw_flatten (bl s)
  rw [bl_len] at hfl
  have hrl := rawB_length (bl s)
  rw [bl_len] at hrl
  have hns : (rawB (bl s)).length + 31 = (bl s).length + 37 := by rw [hrl, bl_len]
  have hsecs : cutsB (((rawB (bl s)).length + 31) / 32) (rawB (bl s)) = secs (bl s) := by rw [hns]; rfl
  have Hfl := Lib.hid hfl
  have Hrl := Lib.hid hrl
  have Hsecs := Lib.hid hsecs
  have Hn := Lib.hid hn
  clear hfl hrl hns hsecs hn
  go_enter Tryd.func29, Tryd.ntmps29
  go_wp2_with (go_at_call 45; refine (fdigits_two s.size _ (by omega)).mono ?_)
  rintro e W1 ⟨rfl, b1⟩
  have h1 := Lib.hid (HT.out.below b1 hg)
  go_wp2_with (go_at_call 46; refine (csum_any s _ (by omega) h1.out).mono ?_)
  rintro e W2 ⟨rfl, b2⟩
  have b12 := below_step b1 b2
  clear b1 b2 h1
  go_wp2_with (go_at_call 45; refine (fdigits_four (crcSum (bl s)) _ Hn.out).mono ?_)
  rintro e W3 ⟨rfl, b3⟩
  have b13 := below_step b12 b3
  have hst := strs_three (len2 s.size) (be4 (crcSum (bl s))) s W3
  have hcap : ([len2 s.size, be4 (crcSum (bl s)), bl s].flatten).length ≤ 140737488355328 := by rw [Hfl.out, Hrl.out]; omega
  have b13' := below_new b13 (.cells #[.string (str (len2 s.size)), .string (str (be4 (crcSum (bl s)))), .string s] 9)
  have hput := fput_any _ 3 _ _ hst (by simp) hcap
  rw [Hfl.out] at hput
  have Hput := Lib.hid hput
  clear b12 b3 b13 hst hcap hput
  go_wp2_with (go_at_call 48; refine Hput.out.mono ?_)
  rintro e W4 ⟨rfl, b4⟩
  have b14 := below_step b13' b4
  have hcut := cut_any (rawB (bl s)) W4 (by rw [Hrl.out]; omega)
  rw [Hsecs.out] at hcut
  have Hcut := Lib.hid hcut
  clear b13' b4 Hput hcut
  go_wp2_with (go_at_call 47; refine Hcut.out.mono ?_)
  rintro e W5 ⟨v, rfl, hown, b5⟩
  have b15 := below_step b14 b5
  have hown' : OwnsStrs W5 w.heap.size v (secs (bl s)) := ownsRow_mono hown b14.size
  clear b14 b5 hown
  go_wp2
  go_ret2
  exact ⟨v, rfl, hown', b15⟩

end Go.Proofs.YtjllpbckmioiiaaDoor

/- What Unpack of package frame does. -/
namespace Go.Proofs.YtjllpbckmioiiaaDoor
open Go.RowKit
set_option maxRecDepth 100000

/-- A text and no error. -/
def okGot (s : ByteArray) (w : World) (e : Ending) (w' : World) : Prop :=
  e = .returned (.tuple #[.string s, .int .i64 0]) ∧ Below w.heap.size w w'
def okForm (w : World) (e : Ending) (w' : World) : Prop :=
  e = .returned (.tuple #[.string ⟨#[]⟩, .int .i64 4]) ∧ Below w.heap.size w w'

set_option maxHeartbeats 800000 in
theorem unpack_some (a : Option Addr) (c : Nat) (ps : List (List UInt8)) (t : List UInt8) (w : World) (hp : StrsAt w a ps) (hi : IsText ps t) (ht : CTab w) :
    Calls Tryd.prog 59 #[.slice a ps.length c] w (okGot (str t) w) := by
  have HT := Lib.hid ht
  have hg := ht.1
  clear ht
  have HP := Lib.hid hp
  have hpl : ps.length ≤ 1000 := by rw [hi.2, secs_length]; have := hi.1; unfold nsec; omega
  have hfl : ps.flatten = wholeB t := by rw [hi.2, flatten_secs]
  have hwl := wholeB_length t
  have hfs : ps.flatten.length ≤ 100000 := by rw [hfl, hwl]; have := hi.1; unfold nsec; omega
  have hput := fput_any a c ps w hp (by omega) (by omega)
  have htl := hi.1
  have hsz := str_size t
  have hzl := str_size ps.flatten
  have hts : (str t).size ≤ 8192 := by omega
  have hins : ∀ W, Calls Tryd.prog 75 #[.string (str ps.flatten)] W fun e w' => e = .returned (.tuple #[.string (str t), .bool true]) ∧ Below W.heap.size W w' := by
    intro W
    have := inside_any (str ps.flatten) W (by omega)
    rw [bl_str, hfl, insB_whole t (by omega)] at this
    rw [hfl]
    exact this
  have heq : secs t = ps := hi.2.symm
  have Hput := Lib.hid hput
  have Hins := Lib.hid hins
  have Heq := Lib.hid heq
  have hblt := Lib.hid (bl_str t)
  clear hp hput hins heq hi hfl hwl hsz hzl htl hfs
  generalize str ps.flatten = f at *
  generalize str t = s at *
  go_enter Tryd.func59, Tryd.ntmps59
  go_wp2_with (go_at_call 48; refine Hput.out.mono ?_)
  rintro e W1 ⟨rfl, b1⟩
  go_wp2_with (go_at_call 75; refine (Hins.out _).mono ?_)
  rintro e W2 ⟨rfl, b2⟩
  have b12 := below_step b1 b2
  have h2 := Lib.hid (HT.out.below b12 hg)
  clear b1 b2
  go_wp2_with (go_at_call 29; refine (pack_any s _ hts h2.out).mono ?_)
  rintro e W3 ⟨v, rfl, hown, b3⟩
  have b13 := below_step b12 b3
  rw [hblt.out, Heq.out] at hown
  obtain ⟨a2, c2, rfl, hlc, hcm, hst, _, _⟩ := hown.view
  have hst1 := HP.out.below b13 (Nat.le_refl _)
  have heqc := equal_any a2 a c2 c ps ps W3 hst hst1 (by omega) (by omega)
  rw [show decide (ps = ps) = true from by simp] at heqc
  have Heqc := Lib.hid heqc
  clear b12 b3 hown hst hst1 heqc h2
  go_wp2_with (go_at_call 76; refine Heqc.out.mono ?_)
  rintro e W4 ⟨rfl, b4⟩
  have b14 := below_step b13 b4
  clear b13 b4
  go_wp2
  go_ret2
  exact ⟨rfl, b14⟩

set_option maxHeartbeats 800000 in
theorem unpack_none (a : Option Addr) (c : Nat) (ps : List (List UInt8)) (w : World) (hp : StrsAt w a ps) (hpl : ps.length ≤ 1000) (hfs : ps.flatten.length ≤ 100000) (hi : ∀ t, ¬ IsText ps t) (ht : CTab w) :
    Calls Tryd.prog 59 #[.slice a ps.length c] w (okForm w) := by
  have HT := Lib.hid ht
  have hg := ht.1
  clear ht
  have HP := Lib.hid hp
  have hput := fput_any a c ps w hp (by omega) (by omega)
  have hzl := str_size ps.flatten
  have hins : ∀ W, Calls Tryd.prog 75 #[.string (str ps.flatten)] W (okOpt (insB ps.flatten) W) := by
    intro W
    have := inside_any (str ps.flatten) W (by omega)
    rwa [bl_str] at this
  have Hput := Lib.hid hput
  have Hins := Lib.hid hins
  clear hp hput hins hzl
  generalize str ps.flatten = f at *
  cases hx : insB ps.flatten with
  | none =>
    rw [hx] at Hins
    go_enter Tryd.func59, Tryd.ntmps59
    go_wp2_with (go_at_call 48; refine Hput.out.mono ?_)
    rintro e W1 ⟨rfl, b1⟩
    go_wp2_with (go_at_call 75; refine (Hins.out _).mono ?_)
    rintro e W2 ⟨rfl, b2⟩
    have b12 := below_step b1 b2
    clear b1 b2
    go_wp2
    go_ret2
    exact ⟨rfl, b12⟩
  | some t =>
    rw [hx] at Hins
    have hsz := str_size t
    by_cases htl : 8192 < t.length
    · have hts : 8192 < (str t).size := by omega
      have hgd : (some t).getD [] = t := rfl
      have Hins2 : Hid (∀ W, Calls Tryd.prog 75 #[.string f] W fun e w' => e = .returned (.tuple #[.string (str t), .bool true]) ∧ Below W.heap.size W w') := Hins
      clear Hins hsz
      generalize str t = s at *
      go_enter Tryd.func59, Tryd.ntmps59
      go_wp2_with (go_at_call 48; refine Hput.out.mono ?_)
      rintro e W1 ⟨rfl, b1⟩
      go_wp2_with (go_at_call 75; refine (Hins2.out _).mono ?_)
      rintro e W2 ⟨rfl, b2⟩
      have b12 := below_step b1 b2
      clear b1 b2
      go_wp2_with (go_at_call 29; refine (pack_long s _ hts).mono ?_)
      rintro e W3 ⟨rfl, b3⟩
      have b13 := below_step b12 b3
      clear b12 b3
      go_wp2
      go_ret2
      exact ⟨rfl, b13⟩
    · have hts : (str t).size ≤ 8192 := by omega
      have Hins2 : Hid (∀ W, Calls Tryd.prog 75 #[.string f] W fun e w' => e = .returned (.tuple #[.string (str t), .bool true]) ∧ Below W.heap.size W w') := Hins
      have hne : decide (secs t = ps) = false := by
        simp only [decide_eq_false_iff_not]
        intro h
        exact hi t ⟨by omega, h.symm⟩
      have hblt := Lib.hid (bl_str t)
      have hsl := secs_length t
      have hsl2 : (secs t).length ≤ 1000 := by rw [hsl]; unfold nsec; omega
      have Hne := Lib.hid hne
      have Hx := Lib.hid hx
      clear Hins hsz hne hsl hx hi
      generalize str t = s at *
      go_enter Tryd.func59, Tryd.ntmps59
      go_wp2_with (go_at_call 48; refine Hput.out.mono ?_)
      rintro e W1 ⟨rfl, b1⟩
      go_wp2_with (go_at_call 75; refine (Hins2.out _).mono ?_)
      rintro e W2 ⟨rfl, b2⟩
      have b12 := below_step b1 b2
      have h2 := Lib.hid (HT.out.below b12 hg)
      clear b1 b2
      go_wp2_with (go_at_call 29; refine (pack_any s _ hts h2.out).mono ?_)
      rintro e W3 ⟨v, rfl, hown, b3⟩
      have b13 := below_step b12 b3
      rw [hblt.out] at hown
      obtain ⟨a2, c2, rfl, hlc, hcm, hst, _, _⟩ := hown.view
      have hst1 := HP.out.below b13 (Nat.le_refl _)
      have heqc := equal_any a2 a c2 c (secs t) ps W3 hst hst1 (by omega) (by omega)
      rw [Hne.out] at heqc
      have Heqc := Lib.hid heqc
      clear b12 b3 hown hst hst1 heqc h2
      go_wp2_with (go_at_call 76; refine Heqc.out.mono ?_)
      rintro e W4 ⟨rfl, b4⟩
      have b14 := below_step b13 b4
      clear b13 b4
      go_wp2
      go_ret2
      exact ⟨rfl, b14⟩

end Go.Proofs.YtjllpbckmioiiaaDoor

/- Slices of writes in memory; the power. -/
namespace Go.Proofs.YtjllpbckmioiiaaDoor.jr
open Go Go.RowKit Go.Proofs.YtjllpbckmioiiaaDoor.dk Go.Proofs.YtjllpbckmioiiaaDoor.wi
set_option maxRecDepth 100000

def i64B (x : Int) : Prop := -9223372036854775808 ≤ x ∧ x ≤ 9223372036854775807

/-- A slice of writes. -/
def WsAt (w : World) (a : Option Addr) (l : List Wr) : Prop :=
  ∀ i (h : i < l.length), ∃ b o, a = some ⟨b, o, none⟩ ∧ b < w.heap.size ∧ w.cell? ⟨b, o + i * 2, none⟩ = some (.int .i64 l[i].1) ∧ w.cell? ⟨b, o + i * 2 + 1, none⟩ = some (.string (str l[i].2)) ∧ i64B l[i].1

theorem WsAt.below {w w' : World} {a : Option Addr} {l : List Wr} {B : Nat} (h : WsAt w a l) (hb : Below B w w') (hB : w.heap.size ≤ B) : WsAt w' a l := by
  intro i hi
  obtain ⟨b, o, h1, h2, h3, h4, h5⟩ := h i hi
  refine ⟨b, o, h1, Nat.lt_of_lt_of_le h2 hb.size, ?_, ?_, h5⟩
  · rw [hb.cell (p := ⟨b, o + i * 2, none⟩) (Nat.lt_of_lt_of_le h2 hB)]; exact h3
  · rw [hb.cell (p := ⟨b, o + i * 2 + 1, none⟩) (Nat.lt_of_lt_of_le h2 hB)]; exact h4

section
variable {most : Nat} {w : World} {own : Nat → Prop} {p : Nat} {d : DD}

theorem power_any (h : DkIs most w own p d) : Calls Tryd.prog 26 #[.pointer (some ⟨p, 0, none⟩)] w fun e w' => e = .returned (.int .i64 (if d.on then 0 else 6)) ∧ w = w' := by
  obtain ⟨h0, m, v, hd⟩ := h
  have HO := Lib.hid (on_any hd)
  clear h0 hd
  cases hon : d.on with
  | true =>
    rw [hon] at HO
    go_enter Tryd.func26, Tryd.ntmps26
    go_wp2_with (go_at_call 14; refine HO.out.mono ?_; rintro e w' ⟨rfl, rfl⟩)
    go_ret
    exact ⟨rfl, rfl⟩
  | false =>
    rw [hon] at HO
    go_enter Tryd.func26, Tryd.ntmps26
    go_wp2_with (go_at_call 14; refine HO.out.mono ?_; rintro e w' ⟨rfl, rfl⟩)
    go_ret
    exact ⟨rfl, rfl⟩

theorem power_nil (w : World) : Calls Tryd.prog 26 #[.pointer none] w fun e w' => e = .returned (.int .i64 1) ∧ w = w' := by
  go_enter Tryd.func26, Tryd.ntmps26
  go_wp2
  go_ret
  exact ⟨rfl, rfl⟩

set_option maxHeartbeats 1600000 in
theorem first_any (a c : Nat) (ha : a < 2) (w : World) : Calls Tryd.prog 51 #[.agg #[.int .i64 (a : Int), .int .i64 (c : Int)]] w fun e w' => e = .returned (.int .i64 ((1 + a * 72 : Nat) : Int)) ∧ Below w.heap.size w w' := by
  have e1 : (1 : Int) + (a : Int) * 72 = ((1 + a * 72 : Nat) : Int) := by omega
  have ha1 : (a : Int) ≤ 1 := by omega
  have E1 := Lib.hid e1
  clear e1
  go_enter Tryd.func51, Tryd.ntmps51
  go_wp2
  go_ret
  exact ⟨by rw [← E1.out]; rfl, (Below.refl _ _).alloc (Nat.le_refl _) _⟩
end

/-! ### A record's text -/
def PutRel (l : List Wr) (w : World) (s i : Value) (wr : World) : Prop :=
  ∃ k : Nat, k ≤ l.length ∧ i = .int .i64 (k : Int) ∧ s = .string (str (numB l.length ++ ((l.take k).map wB).flatten)) ∧ Below w.heap.size w wr

theorem put_len (l : List Wr) (h60 : l.length ≤ 60) (h : ∀ x ∈ l, 0 ≤ x.1 ∧ x.2.length = 32) (k : Nat) : (numB l.length ++ ((l.take k).map wB).flatten).length ≤ 3009 := by
  have h1 := numB_len l.length
  have h2 := flat_len (l.take k) (fun x hx => (h x (List.mem_of_mem_take hx)).2)
  have h3 : (l.take k).length ≤ 60 := by simp; omega
  simp only [List.length_append]
  omega

def okT (t : Bt) (w : World) (e : Ending) (w' : World) : Prop := e = .returned (.string (str t)) ∧ Below w.heap.size w w'

set_option maxHeartbeats 1600000 in
theorem put_any (a : Option Addr) (c : Nat) (l : List Wr) (w : World) (hT : WsAt w a l) (h60 : l.length ≤ 60) (h : ∀ x ∈ l, 0 ≤ x.1 ∧ x.2.length = 32) :
    Calls Tryd.prog 30 #[.slice a l.length c] w (okT (recT l) w) := by
  have HT := Lib.hid hT
  have HL := Lib.hid (put_len l h60 h)
  have HX := Lib.hid h
  clear hT h
  go_enter Tryd.func30, Tryd.ntmps30
  go_wp2_with fail
  refine (putNum_nat ⟨#[]⟩ l.length w (by omega) (by decide)).mono ?_
  rintro e W1 ⟨rfl, b1⟩
  have B1 := Lib.hid b1
  clear b1
  obtain ⟨s1, hs1⟩ : ∃ s, str (bl ⟨#[]⟩ ++ numB l.length) = s := ⟨_, rfl⟩
  rw [hs1]
  have HS1 := Lib.hid hs1
  clear hs1
  go_wp2_with fail
  go_loopw [3, 12] (fun s i wr => PutRel l w s i wr) (fun _ i _ => l.length - (intOf i).toNat)
  case atStart => exact ⟨0, Nat.zero_le _, rfl, by rw [← HS1.out]; simp [bl], B1.out⟩
  case round =>
    obtain ⟨k, hk, rfl, rfl, hB⟩ := hrel
    have HB := Lib.hid hB
    clear hB B1
    by_cases hlt : k < l.length
    · obtain ⟨b, o, rfl, hb, q0, q1, qb⟩ := HT.out k hlt
      have hx := HX.out l[k] (List.getElem_mem hlt)
      have hstep : ((l.take (k + 1)).map wB).flatten = ((l.take k).map wB).flatten ++ wB l[k] := by rw [List.take_succ_eq_append_getElem hlt, List.map_append, List.flatten_append]; simp
      have HST := Lib.hid hstep
      have HLk := Lib.hid (HL.out k)
      clear hstep
      generalize hxx : l[k] = x at *
      obtain ⟨n, hn⟩ := Int.eq_ofNat_of_zero_le hx.1
      have e0 : wr.cell? ⟨b, o + k * 2, none⟩ = some (.int .i64 (n : Int)) := by rw [HB.out.cell (p := ⟨b, o + k * 2, none⟩) hb, q0, hn]
      have e1 : wr.cell? ⟨b, o + k * 2 + 1, none⟩ = some (.string (str x.2)) := by rw [HB.out.cell (p := ⟨b, o + k * 2 + 1, none⟩) hb]; exact q1
      have hn64 : (n : Int) ≤ 9223372036854775807 := by have := qb.2; omega
      have hb2 : b < wr.heap.size := Nat.lt_of_lt_of_le hb HB.out.size
      obtain ⟨S, hS⟩ : ∃ s, str (numB l.length ++ ((l.take k).map wB).flatten) = s := ⟨_, rfl⟩
      have hSs : S.size ≤ 3009 := by rw [← hS, str_size]; exact HLk.out
      rw [hS]
      have HS := Lib.hid hS
      have HX2 := Lib.hid hx.2
      have HN := Lib.hid hn
      have hklt : (k : Int) < (l.length : Int) := by omega
      clear q0 q1 qb hS hn hx hxx
      go_wp2_with fail
      refine (putNum_nat S n _ (by omega) (by omega)).mono ?_
      rintro e W2 ⟨rfl, b2⟩
      have hA : Blk (wr.alloc (.cells #[.int .i64 (n : Int), .string (str x.2)] 49)) wr.heap.size _ _ := Blk.new wr _ _
      have hA2 : Blk W2 wr.heap.size _ _ := hA.of_block (b2.block _ hA.lt)
      have q2 := hA2.cell 1
      have lt2 := hA2.lt
      have B2 := Lib.hid (below_step (HB.out.alloc HB.out.size _) b2)
      clear b2 hA hA2
      obtain ⟨S2, hS2⟩ : ∃ s, str (bl S ++ numB n) = s := ⟨_, rfl⟩
      have hl9 := numB_len n
      have hS2s : S2.size ≤ 3020 := by rw [← hS2, str_size, List.length_append, bl_len]; omega
      rw [hS2]
      have HS2 := Lib.hid hS2
      clear hS2
      go_wp2_with fail
      refine (putText_any S2 (str x.2) _ (by omega) (by rw [str_size, HX2.out]; omega)).mono ?_
      rintro e W3 ⟨rfl, b3⟩
      have B3 := Lib.hid (below_step B2.out b3)
      clear b3 B2
      obtain ⟨S3, hS3⟩ : ∃ s, str (bl S2 ++ textB (bl (str x.2))) = s := ⟨_, rfl⟩
      rw [hS3]
      have HS3 := Lib.hid hS3
      clear hS3
      go_wp2_with fail
      go_roundw
      case rel =>
        refine ⟨k + 1, by omega, by go_num, ?_, B3.out⟩
        rw [← HS3.out, ← HS2.out, ← HS.out, HST.out, bl_str, bl_str, bl_str]
        have : x.1.toNat = n := by rw [HN.out]; rfl
        simp [wB, this]
      case measure => simp [intOf]; omega
    · obtain rfl : k = l.length := by omega
      go_wp2_with fail
      go_ret
      refine ⟨?_, HB.out⟩
      rw [List.take_length]
      rfl
end Go.Proofs.YtjllpbckmioiiaaDoor.jr

