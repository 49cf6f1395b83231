/- The small sample that each law of frame asks: a text of two sectors. -/
import Derived.Test.YtpjjmaknajjimaaDoorFUnpack
namespace Go.Proofs.YtpjjmaknajjimaaDoor
open Go.RowKit

def sample : ByteArray := ⟨#[97, 98, 99, 100, 101, 102, 103, 104, 105, 106, 107, 108, 109, 110, 111, 112, 113, 114, 115, 116, 117, 118, 119, 120, 121, 122, 48, 49, 50, 51, 52, 53, 54, 55, 56, 57]⟩

theorem unpack_own (v : Value) (B : Nat) (ps : List (List UInt8)) (t : List UInt8) (w : World) (h : OwnsStrs w B v ps) (ht : IsText ps t) (hT : CTab w) :
    Calls Tryd.prog 14 #[v] w (okGot (str t) w) := by
  obtain ⟨a, c, rfl, _, _, hs, _, _⟩ := h.view
  exact unpack_some a c ps t w hs ht hT

def okPackN (ps : List (List UInt8)) (w : World) (e : Ending) (w' : World) : Prop :=
  ∃ v, e = .returned (.tuple #[v, .int .i64 0]) ∧ OwnsStrs w' w.heap.size v ps ∧ Below w.heap.size w w'

/-- Pack of a text whose sectors are known by name, and Unpack of them. -/
theorem pack_named (s : ByteArray) (ps : List (List UInt8)) (hs : s.size ≤ 8192) (hps : ps = secs (bl s)) (W : World) (hW : CTab W) :
    Calls Tryd.prog 8 #[.string s] W (okPackN ps W) := by
  subst hps
  exact pack_any s W hs hW

theorem unpack_named (s : ByteArray) (ps : List (List UInt8)) (hs : s.size ≤ 8192) (hps : ps = secs (bl s)) (v : Value) (B : Nat) (W : World) (h : OwnsStrs W B v ps) (hT : CTab W) :
    Calls Tryd.prog 14 #[v] W (okGot s W) := by
  have := unpack_own v B ps (bl s) W h ⟨by rw [bl_len]; exact hs, hps⟩ hT
  rwa [str_bl] at this

theorem size_named (s : ByteArray) (n : Nat) (hs : s.size ≤ 4611686018427387904) (hn : nsec s.size = n) (W : World) :
    Calls Tryd.prog 11 #[.string s] W fun e w' => e = .returned (.int .i64 (n : Int)) ∧ W = w' := by
  subst hn
  exact fsize_any s W hs

set_option maxHeartbeats 800000 in
theorem fworks_any (w : World) (ht : CTab w) : Calls Tryd.prog 13 #[] w (okTrue w) := by
  have HT := Lib.hid ht
  have hg := ht.1
  clear ht
  obtain ⟨ps, hps⟩ : ∃ ps, ps = secs (bl sample) := ⟨_, rfl⟩
  have hsl : ps.length = 2 := by rw [hps, secs_length]; rfl
  have h32 : ∀ i (h : i < ps.length), ps[i].length = 32 := by rw [hps]; exact secs_each _
  have hpk := Lib.hid (pack_named sample ps (by decide) hps)
  have hup := Lib.hid (unpack_named sample ps (by decide) hps)
  have hfs := Lib.hid (size_named sample 2 (by decide) rfl)
  clear hps
  obtain ⟨p0, p1, rfl⟩ : ∃ p0 p1, ps = [p0, p1] := by
    match ps, hsl with
    | [a, b], _ => exact ⟨a, b, rfl⟩
  have hx : (str p1).size = 32 := by rw [str_size]; exact h32 1 (by simp)
  clear h32 hsl
  unfold sample at *
  go_enter Tryd.func13, Tryd.ntmps13
  go_wp2_with (go_at_call 8; refine (hpk.out _ HT.out).mono ?_)
  rintro e W1 ⟨v, rfl, hown, b1⟩
  have h1 := Lib.hid (HT.out.below b1 hg)
  have Hown := Lib.hid hown
  clear hown
  go_wp2_with (go_at_call 14; refine (hup.out _ _ _ Hown.out h1.out).mono ?_)
  rintro e W2 ⟨rfl, b2⟩
  have b12 := below_step b1 b2
  obtain ⟨a, c, rfl, hlc, _, hstr, _, _⟩ := Hown.out.view
  have hstr2 := hstr.below b2 (Nat.le_refl _)
  obtain ⟨b, o, rfl, hb, hcell⟩ := hstr2 1 (by simp)
  have hcell' : W2.cell? ⟨b, o + 1, none⟩ = some (.string (str p1)) := hcell
  generalize str p1 = x at *
  clear hstr hstr2 hpk hup Hown h1 b1 b2 hcell hlc
  go_wp2_with (go_at_call 11; refine (hfs.out _).mono ?_; rintro e w' ⟨rfl, rfl⟩)
  go_ret
  exact ⟨rfl, b12⟩

end Go.Proofs.YtpjjmaknajjimaaDoor
