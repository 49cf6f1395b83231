/- What Unpack of package frame does. -/
import Derived.Test.YtpjjmaknajjimaaDoorFPack
namespace Go.Proofs.YtpjjmaknajjimaaDoor
open Go.RowKit

/-- A text and no error. -/
def okGot (s : ByteArray) (w : World) (e : Ending) (w' : World) : Prop :=
  e = .returned (.tuple #[.string s, .int .i64 0]) ∧ Below w.heap.size w w'
def okForm (w : World) (e : Ending) (w' : World) : Prop :=
  e = .returned (.tuple #[.string ⟨#[]⟩, .int .i64 4]) ∧ Below w.heap.size w w'

set_option maxHeartbeats 800000 in
theorem unpack_some (a : Option Addr) (c : Nat) (ps : List (List UInt8)) (t : List UInt8) (w : World) (hp : StrsAt w a ps) (hi : IsText ps t) (ht : CTab w) :
    Calls Tryd.prog 14 #[.slice a ps.length c] w (okGot (str t) w) := by
  have HT := Lib.hid ht
  have hg := ht.1
  clear ht
  have HP := Lib.hid hp
  have hpl : ps.length ≤ 1000 := by rw [hi.2, secs_length]; have := hi.1; unfold nsec; omega
  have hfl : ps.flatten = wholeB t := by rw [hi.2, flatten_secs]
  have hwl := wholeB_length t
  have hfs : ps.flatten.length ≤ 100000 := by rw [hfl, hwl]; have := hi.1; unfold nsec; omega
  have hput := fput_any a c ps w hp (by omega) (by omega)
  have htl := hi.1
  have hsz := str_size t
  have hzl := str_size ps.flatten
  have hts : (str t).size ≤ 8192 := by omega
  have hins : ∀ W, Calls Tryd.prog 21 #[.string (str ps.flatten)] W fun e w' => e = .returned (.tuple #[.string (str t), .bool true]) ∧ Below W.heap.size W w' := by
    intro W
    have := inside_any (str ps.flatten) W (by omega)
    rw [bl_str, hfl, insB_whole t (by omega)] at this
    rw [hfl]
    exact this
  have heq : secs t = ps := hi.2.symm
  have Hput := Lib.hid hput
  have Hins := Lib.hid hins
  have Heq := Lib.hid heq
  have hblt := Lib.hid (bl_str t)
  clear hp hput hins heq hi hfl hwl hsz hzl htl hfs
  generalize str ps.flatten = f at *
  generalize str t = s at *
  go_enter Tryd.func14, Tryd.ntmps14
  go_wp2_with (go_at_call 19; refine Hput.out.mono ?_)
  rintro e W1 ⟨rfl, b1⟩
  go_wp2_with (go_at_call 21; refine (Hins.out _).mono ?_)
  rintro e W2 ⟨rfl, b2⟩
  have b12 := below_step b1 b2
  have h2 := Lib.hid (HT.out.below b12 hg)
  clear b1 b2
  go_wp2_with (go_at_call 8; refine (pack_any s _ hts h2.out).mono ?_)
  rintro e W3 ⟨v, rfl, hown, b3⟩
  have b13 := below_step b12 b3
  rw [hblt.out, Heq.out] at hown
  obtain ⟨a2, c2, rfl, hlc, hcm, hst, _, _⟩ := hown.view
  have hst1 := HP.out.below b13 (Nat.le_refl _)
  have heqc := equal_any a2 a c2 c ps ps W3 hst hst1 (by omega) (by omega)
  rw [show decide (ps = ps) = true from by simp] at heqc
  have Heqc := Lib.hid heqc
  clear b12 b3 hown hst hst1 heqc h2
  go_wp2_with (go_at_call 22; refine Heqc.out.mono ?_)
  rintro e W4 ⟨rfl, b4⟩
  have b14 := below_step b13 b4
  clear b13 b4
  go_wp2
  go_ret2
  exact ⟨rfl, b14⟩

set_option maxHeartbeats 800000 in
theorem unpack_none (a : Option Addr) (c : Nat) (ps : List (List UInt8)) (w : World) (hp : StrsAt w a ps) (hpl : ps.length ≤ 1000) (hfs : ps.flatten.length ≤ 100000) (hi : ∀ t, ¬ IsText ps t) (ht : CTab w) :
    Calls Tryd.prog 14 #[.slice a ps.length c] w (okForm w) := by
  have HT := Lib.hid ht
  have hg := ht.1
  clear ht
  have HP := Lib.hid hp
  have hput := fput_any a c ps w hp (by omega) (by omega)
  have hzl := str_size ps.flatten
  have hins : ∀ W, Calls Tryd.prog 21 #[.string (str ps.flatten)] W (okOpt (insB ps.flatten) W) := by
    intro W
    have := inside_any (str ps.flatten) W (by omega)
    rwa [bl_str] at this
  have Hput := Lib.hid hput
  have Hins := Lib.hid hins
  clear hp hput hins hzl
  generalize str ps.flatten = f at *
  cases hx : insB ps.flatten with
  | none =>
    rw [hx] at Hins
    go_enter Tryd.func14, Tryd.ntmps14
    go_wp2_with (go_at_call 19; refine Hput.out.mono ?_)
    rintro e W1 ⟨rfl, b1⟩
    go_wp2_with (go_at_call 21; refine (Hins.out _).mono ?_)
    rintro e W2 ⟨rfl, b2⟩
    have b12 := below_step b1 b2
    clear b1 b2
    go_wp2
    go_ret2
    exact ⟨rfl, b12⟩
  | some t =>
    rw [hx] at Hins
    have hsz := str_size t
    by_cases htl : 8192 < t.length
    · have hts : 8192 < (str t).size := by omega
      have hgd : (some t).getD [] = t := rfl
      have Hins2 : Hid (∀ W, Calls Tryd.prog 21 #[.string f] W fun e w' => e = .returned (.tuple #[.string (str t), .bool true]) ∧ Below W.heap.size W w') := Hins
      clear Hins hsz
      generalize str t = s at *
      go_enter Tryd.func14, Tryd.ntmps14
      go_wp2_with (go_at_call 19; refine Hput.out.mono ?_)
      rintro e W1 ⟨rfl, b1⟩
      go_wp2_with (go_at_call 21; refine (Hins2.out _).mono ?_)
      rintro e W2 ⟨rfl, b2⟩
      have b12 := below_step b1 b2
      clear b1 b2
      go_wp2_with (go_at_call 8; refine (pack_long s _ hts).mono ?_)
      rintro e W3 ⟨rfl, b3⟩
      have b13 := below_step b12 b3
      clear b12 b3
      go_wp2
      go_ret2
      exact ⟨rfl, b13⟩
    · have hts : (str t).size ≤ 8192 := by omega
      have Hins2 : Hid (∀ W, Calls Tryd.prog 21 #[.string f] W fun e w' => e = .returned (.tuple #[.string (str t), .bool true]) ∧ Below W.heap.size W w') := Hins
      have hne : decide (secs t = ps) = false := by
        simp only [decide_eq_false_iff_not]
        intro h
        exact hi t ⟨by omega, h.symm⟩
      have hblt := Lib.hid (bl_str t)
      have hsl := secs_length t
      have hsl2 : (secs t).length ≤ 1000 := by rw [hsl]; unfold nsec; omega
      have Hne := Lib.hid hne
      have Hx := Lib.hid hx
      clear Hins hsz hne hsl hx hi
      generalize str t = s at *
      go_enter Tryd.func14, Tryd.ntmps14
      go_wp2_with (go_at_call 19; refine Hput.out.mono ?_)
      rintro e W1 ⟨rfl, b1⟩
      go_wp2_with (go_at_call 21; refine (Hins2.out _).mono ?_)
      rintro e W2 ⟨rfl, b2⟩
      have b12 := below_step b1 b2
      have h2 := Lib.hid (HT.out.below b12 hg)
      clear b1 b2
      go_wp2_with (go_at_call 8; refine (pack_any s _ hts h2.out).mono ?_)
      rintro e W3 ⟨v, rfl, hown, b3⟩
      have b13 := below_step b12 b3
      rw [hblt.out] at hown
      obtain ⟨a2, c2, rfl, hlc, hcm, hst, _, _⟩ := hown.view
      have hst1 := HP.out.below b13 (Nat.le_refl _)
      have heqc := equal_any a2 a c2 c (secs t) ps W3 hst hst1 (by omega) (by omega)
      rw [Hne.out] at heqc
      have Heqc := Lib.hid heqc
      clear b12 b3 hown hst hst1 heqc h2
      go_wp2_with (go_at_call 22; refine Heqc.out.mono ?_)
      rintro e W4 ⟨rfl, b4⟩
      have b14 := below_step b13 b4
      clear b13 b4
      go_wp2
      go_ret2
      exact ⟨rfl, b14⟩

end Go.Proofs.YtpjjmaknajjimaaDoor
