/- What Pack and Unpack of package frame do. -/
import Derived.Test.YtpjjmaknajjimaaDoorFPut
import Derived.Test.YtpjjmaknajjimaaDoorFIns
import Derived.Test.YtpjjmaknajjimaaDoorFCut
import Derived.Test.YtpjjmaknajjimaaDoorFEq
import Derived.Test.YtpjjmaknajjimaaDoorCSum
namespace Go.Proofs.YtpjjmaknajjimaaDoor
open Go.RowKit

/-- What Pack answers: nothing and ErrLong, or the sectors. -/
def okPack (s : ByteArray) (w : World) (e : Ending) (w' : World) : Prop :=
  ∃ v, e = .returned (.tuple #[v, .int .i64 0]) ∧ OwnsStrs w' w.heap.size v (secs (bl s)) ∧ Below w.heap.size w w'

theorem strs_three (a b : List UInt8) (s : ByteArray) (w : World) : StrsAt (w.alloc (.cells #[.string (str a), .string (str b), .string s] 9)) (some ⟨w.heap.size, 0, none⟩) [a, b, bl s] := by
  have := strsAt_new [a, b, bl s] w
  simp only [strVals, List.map_cons, List.map_nil, str_bl] at this
  exact this

theorem pack_long (s : ByteArray) (w : World) (hs : 8192 < s.size) :
    Calls Tryd.prog 8 #[.string s] w fun e w' => e = .returned (.tuple #[.slice none 0 0, .int .i64 3]) ∧ Below w.heap.size w w' := by
  have hc : (8192 : Int) < (s.size : Int) := by omega
  go_enter Tryd.func8, Tryd.ntmps8
  go_wp2
  go_ret2
  exact ⟨rfl, Below.refl _ _⟩

theorem raw_flatten (t : List UInt8) : [len2 t.length, be4 (crcSum t), t].flatten = rawB t := by simp [rawB, headB]

set_option maxHeartbeats 800000 in
theorem pack_any (s : ByteArray) (w : World) (hs : s.size ≤ 8192) (ht : CTab w) :
    Calls Tryd.prog 8 #[.string s] w (okPack s w) := by
  have HT := Lib.hid ht
  have hg := ht.1
  clear ht
  have hn := crcSum_lt (bl s)
  have hfl := raw_flatten (bl s)
  rw [bl_len] at hfl
  have hrl := rawB_length (bl s)
  rw [bl_len] at hrl
  have hns : (rawB (bl s)).length + 31 = (bl s).length + 37 := by rw [hrl, bl_len]
  have hsecs : cutsB (((rawB (bl s)).length + 31) / 32) (rawB (bl s)) = secs (bl s) := by rw [hns]; rfl
  have Hfl := Lib.hid hfl
  have Hrl := Lib.hid hrl
  have Hsecs := Lib.hid hsecs
  have Hn := Lib.hid hn
  clear hfl hrl hns hsecs hn
  go_enter Tryd.func8, Tryd.ntmps8
  go_wp2_with (go_at_call 16; refine (fdigits_two s.size _ (by omega)).mono ?_)
  rintro e W1 ⟨rfl, b1⟩
  have h1 := Lib.hid (HT.out.below b1 hg)
  go_wp2_with (go_at_call 17; refine (csum_any s _ (by omega) h1.out).mono ?_)
  rintro e W2 ⟨rfl, b2⟩
  have b12 := below_step b1 b2
  clear b1 b2 h1
  go_wp2_with (go_at_call 16; refine (fdigits_four (crcSum (bl s)) _ Hn.out).mono ?_)
  rintro e W3 ⟨rfl, b3⟩
  have b13 := below_step b12 b3
  have hst := strs_three (len2 s.size) (be4 (crcSum (bl s))) s W3
  have hcap : ([len2 s.size, be4 (crcSum (bl s)), bl s].flatten).length ≤ 140737488355328 := by rw [Hfl.out, Hrl.out]; omega
  have b13' := below_new b13 (.cells #[.string (str (len2 s.size)), .string (str (be4 (crcSum (bl s)))), .string s] 9)
  have hput := fput_any _ 3 _ _ hst (by simp) hcap
  rw [Hfl.out] at hput
  have Hput := Lib.hid hput
  clear b12 b3 b13 hst hcap hput
  go_wp2_with (go_at_call 19; refine Hput.out.mono ?_)
  rintro e W4 ⟨rfl, b4⟩
  have b14 := below_step b13' b4
  have hcut := cut_any (rawB (bl s)) W4 (by rw [Hrl.out]; omega)
  rw [Hsecs.out] at hcut
  have Hcut := Lib.hid hcut
  clear b13' b4 Hput hcut
  go_wp2_with (go_at_call 18; refine Hcut.out.mono ?_)
  rintro e W5 ⟨v, rfl, hown, b5⟩
  have b15 := below_step b14 b5
  have hown' : OwnsStrs W5 w.heap.size v (secs (bl s)) := ownsRow_mono hown b14.size
  clear b14 b5 hown
  go_wp2
  go_ret2
  exact ⟨v, rfl, hown', b15⟩

end Go.Proofs.YtpjjmaknajjimaaDoor
