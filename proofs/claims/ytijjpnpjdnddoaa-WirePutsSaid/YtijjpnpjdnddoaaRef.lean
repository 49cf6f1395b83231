/- What the document's own calls that lay numbers and texts as bytes do: PutNum and PutText of package stemmaref01. -/
import Derived.Test.YtijjpnpjdnddoaaPut
import Derived.Laws.AppendOwnNone
namespace Go.Proofs.Ytijjpnpjdnddoaa
open Go.RowKit

def RefRel (n0 : Nat) (w : World) (n b : Value) (wr : World) : Prop :=
  ∃ (m : Nat) (L : List UInt8), n = .int .u64 (m : Int) ∧ m < 18446744073709551616 ∧ digs n0 = digs m ++ L ∧
    wr.ownsRow w.heap.size 5 1 b L.length (Lib.byteCells L) ∧ Below w.heap.size w wr

theorem conv_row (L : List UInt8) (v : Value) (B : Nat) (wr : World) (h : wr.ownsRow B 5 1 v L.length (Lib.byteCells L)) :
    (convert 42 9 v).run Try.prog wr = .ok (.string (str L)) wr := by
  rcases h.2 with ⟨rfl, hn⟩ | ⟨g, cap, cur, rfl, _⟩
  · have : L = [] := List.length_eq_zero_iff.1 hn
    subst this
    exact run_convert_bytes_nil (P := Try.prog) wr 42 5 Try.underlying42 Try.underlying5 0 0 9 Try.underlying9
  · refine run_convert_bytes_back (P := Try.prog) wr 42 9 5 ⟨g, 0, none⟩ cap L Try.underlying42 Try.underlying5 Try.underlying9 ?_
    intro j hj
    have := h.cellAt j (by omega)
    rw [addr_add, Nat.zero_add, this]
    simp [Lib.byteCells, List.getElem?_eq_getElem hj]

theorem add_str (a b : ByteArray) (h : a.size + b.size ≤ 9223372036854775807) (w : World) : (Op.stringOp .add a b).run Try.prog w = .ok (.string (str (bl a ++ bl b))) w := by
  rw [run_string_add_sum (P := Try.prog) w a b h]
  obtain ⟨⟨x⟩⟩ := a
  obtain ⟨⟨y⟩⟩ := b
  congr 2

theorem row_form {B : Nat} {wr : World} {v : Value} {L : List UInt8} (h : wr.ownsRow B 5 1 v L.length (Lib.byteCells L)) : ∃ a c, v = .slice a L.length c := by
  rcases h.2 with ⟨rfl, hn⟩ | ⟨g, cap, cur, rfl, _⟩
  · exact ⟨none, 0, by rw [hn]⟩
  · exact ⟨_, _, rfl⟩

set_option maxHeartbeats 400000 in
theorem refPutNum_any (s : ByteArray) (n : Nat) (w : World) (h1 : n < 18446744073709551616) (hs : s.size ≤ 140737488355000) :
    Calls Try.prog 9 #[.string s, .int .u64 (n : Int)] w (okPutNum s n w) := by
  have hl := digs_len n
  obtain ⟨i0, hi, hz0, hz1, hz2⟩ := info_parts Try.info5
  have hbl := bl_len s
  have Hbl := Lib.hid hbl
  clear hbl
  go_enter Try.func9, Try.ntmps9
  go_wp2
  go_loopw [1, 5] (fun n' b wr => RefRel n w n' b wr) (fun n' _ _ => (intOf n').toNat)
  case atStart => exact ⟨n, [], rfl, h1, by simp, World.ownsRow_nil _ _ _ _, Below.refl _ _⟩
  case round =>
    obtain ⟨m, L, rfl, hm, hd, hown, hB⟩ := hrel
    by_cases h0 : m = 0
    · subst h0
      have hL : digs n = L := by simpa [digs_zero] using hd
      subst hL
      clear hd
      have hcv := conv_row (digs n) _ _ _ (hown.alloc (.cells #[.int .u8 ((digs n).length : Int)] 5))
      have hc1 := conv1 (digs n).length (by omega) wr
      have ha1 := add_str s (str [UInt8.ofNat (digs n).length]) (by rw [str_size]; simp; omega)
      have ha2 := add_str (str (bl s ++ bl (str [UInt8.ofNat (digs n).length]))) (str (digs n)) (by rw [str_size, str_size]; have := Hbl.out; simp [bl_str]; omega)
      rw [bl_str, bl_str, bl_str] at ha2
      rw [bl_str] at ha1
      obtain ⟨a, c, rfl⟩ := row_form hown
      clear hi hz0 hz1 hz2
      go_wp2
      go_ret
      exact ⟨rfl, below_new hB _⟩
    · have hpos : (0 : Int) < (m : Int) := by omega
      have hdp := digs_pos m h0 hm
      have hD : digs n = digs (m / 256) ++ (UInt8.ofNat (m % 256) :: L) := by rw [hd, hdp]; simp
      have hLl : L.length ≤ 8 := by have := congrArg List.length hd; simp at this; omega
      have hm1 : m / 256 < 18446744073709551616 := by omega
      have hz : (UInt8.ofNat (m % 256)).toNat = m % 256 := ofNat_small _ (by omega)
      have hdst : (wr.alloc (.cells #[.int .u8 ((m : Int) % 256)] 5)).ownsRow w.heap.size 5 1 (.slice (some ⟨wr.heap.size, 0, none⟩) 1 1) 1 [.int .u8 ((m : Int) % 256)] :=
        World.ownsRow_lit wr #[.int .u8 ((m : Int) % 256)] 1 hB.size (by unfold maxLen; omega) (by simp)
      have hcat : Value.int .u8 ((m : Int) % 256) :: Lib.byteCells L = Lib.byteCells (UInt8.ofNat (m % 256) :: L) := by
        simp [Lib.byteCells, hz]
      have Hcat := Lib.hid hcat
      have HD := Lib.hid hD
      have hbn := below_new hB (.cells #[.int .u8 ((m : Int) % 256)] 5)
      clear hcat hD hd hdp hz
      rcases hown.2 with ⟨rfl, hn⟩ | ⟨g, cap, cur, rfl, hrest⟩
      · have : L = [] := List.length_eq_zero_iff.1 hn
        subst this
        clear hown hn
        go_wp2
        exact ⟨⟨m / 256, [UInt8.ofNat (m % 256)], rfl, hm1, HD.out, by rw [← Hcat.out]; exact hdst, hbn⟩, by simp [intOf]; omega⟩
      · have hnews : ∀ j u, (Lib.byteCells L)[j]? = some u → (wr.alloc (.cells #[.int .u8 ((m : Int) % 256)] 5)).cell? ((⟨g, 0, none⟩ : Addr).add j) = some u :=
          (hown.alloc _).cells rfl
        have h1c : ∀ u ∈ Lib.byteCells L, u.oneCell' = true := by
          intro u hu
          obtain ⟨x, _, rfl⟩ := List.mem_map.1 hu
          rfl
        have hlen := Lib.byteCells_length L
        have Hnews := Lib.hid hnews
        have Hlen := Lib.hid hlen
        have H1c := Lib.hid h1c
        clear hnews hlen h1c hrest hown
        go_wp2_with (at_builtin; refine wpList_append_own _ rfl _ _ 42 rfl w.heap.size 5 i0 (.int .u8 0) 1 1 Try.underlying42 hi hz0 hz1 hz2 rfl (by decide) _ 1 _ rfl hdst ⟨g, 0, none⟩ L.length cap (Lib.byteCells L) rfl ?_ Hnews.out H1c.out ?_ ?_ hbn.size ?_)
        · rw [Hlen.out]; omega
        · unfold maxLen; omega
        · omega
        · intro v' w1 hown1 hgrow _
          rw [Hcat.out, show 1 + L.length = (UInt8.ofNat (m % 256) :: L).length from by simp; omega] at hown1
          have hb1 := hbn.grown hgrow hbn.size (fun j hj => by simp [Value.ownBlock] at hj; have := hB.size; omega)
          have Hown1 := Lib.hid hown1
          clear hown1 hgrow hdst
          go_wp2
          exact ⟨⟨m / 256, _, rfl, hm1, HD.out, Hown1.out, hb1⟩, by simp [intOf]; omega⟩

theorem refPutText_any (s t : ByteArray) (w : World) (hs : s.size ≤ 70368744177000) (ht : t.size ≤ 70368744177000) :
    Calls Try.prog 11 #[.string s, .string t] w (okPutText s t w) := by
  have hl := digs_len t.size
  have hbs := bl_len s
  have hbl := bl_len t
  have ha1 := add_str (str (bl s ++ numB t.size)) t (by rw [str_size]; simp [numB]; omega)
  rw [bl_str] at ha1
  have Hbl := Lib.hid hbl
  clear hbl hbs
  go_enter Try.func11, Try.ntmps11
  go_wp2_with (go_at_call 9; refine (refPutNum_any s t.size _ (by omega) (by omega)).mono ?_)
  rintro e W1 ⟨rfl, b1⟩
  go_wp2
  go_ret
  exact ⟨by rw [textB, Hbl.out]; simp, b1⟩

end Go.Proofs.Ytijjpnpjdnddoaa
