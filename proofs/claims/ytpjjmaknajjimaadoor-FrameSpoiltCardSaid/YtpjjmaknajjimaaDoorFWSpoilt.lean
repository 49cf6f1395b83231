/- The walk of FrameSpoilt. -/
import Derived.Test.YtpjjmaknajjimaaDoorFWorks
import Derived.Test.YtpjjmaknajjimaaDoorBytes
namespace Go.Proofs.YtpjjmaknajjimaaDoor
open Go.RowKit

theorem owns_block {w : World} {B : Nat} {v : Value} {ps : List (List UInt8)} (h : OwnsStrs w B v ps) (hp : 0 < ps.length) :
    ∃ g c, v = .slice (some ⟨g, 0, none⟩) ps.length c ∧ B ≤ g ∧ g < w.heap.size := by
  rcases h.2 with ⟨_, h0⟩ | ⟨g, cap, cur, rfl, hg, hh, _⟩
  · omega
  · exact ⟨g, cap, rfl, hg, (Array.getElem?_eq_some_iff.1 hh).1⟩

theorem strVals_set (ps : List (List UInt8)) (q : Nat) (p : List UInt8) : (strVals ps).set q (.string (str p)) = strVals (ps.set q p) := by
  unfold strVals
  rw [List.map_set]

/-- One sector of an owned list laid anew. -/
theorem owns_set {w : World} {B g c : Nat} {ps : List (List UInt8)} (h : OwnsStrs w B (.slice (some ⟨g, 0, none⟩) ps.length c) ps) (q : Nat) (p : List UInt8) :
    OwnsStrs (w.setCell ⟨g, q, none⟩ (.string (str p))) B (.slice (some ⟨g, 0, none⟩) ps.length c) (ps.set q p) := by
  have := (World.ownsRow.stored h q (.string (str p))).1
  rw [strVals_set] at this
  unfold OwnsStrs
  rw [List.length_set]
  exact this

set_option maxRecDepth 100000 in
set_option maxHeartbeats 1600000 in
theorem spoilt_at (a0 : ByteArray) (s0 : a0.size ≤ 140737488351232) (m : Nat) (hm : m < 65536) (y : UInt8) (w : World) (ht : CTab w) :
    Calls Tryd.prog 6 #[.string a0, .int .u16 (m : Int), .int .u8 (y.toNat : Int)] w (okTrue w) := by
  have HT := Lib.hid ht
  have hg := ht.1
  clear ht
  have hm0 : (0 : Int) ≤ min (a0.size : Int) 1000 := by omega
  have hm1 : min (a0.size : Int) 1000 ≤ (a0.size : Int) := by omega
  have hxs : (a0.extract 0 (min (a0.size : Int) 1000).toNat).size ≤ 1000 := by simp; omega
  obtain ⟨ps, hps⟩ : ∃ ps, ps = secs (bl (a0.extract 0 (min (a0.size : Int) 1000).toNat)) := ⟨_, rfl⟩
  have htl : (bl (a0.extract 0 (min (a0.size : Int) 1000).toNat)).length ≤ 1000 := by rw [bl_len]; exact hxs
  have hsl : ps.length = nsec (bl (a0.extract 0 (min (a0.size : Int) 1000).toNat)).length := by rw [hps, secs_length]
  have hpl : ps.length ≤ 40 ∧ 0 < ps.length := by rw [hsl]; unfold nsec; omega
  have h32 : ∀ i (h : i < ps.length), ps[i].length = 32 := by rw [hps]; exact secs_each _
  have hno := fun k hk2 hk hmm x hx => other_none (bl (a0.extract 0 (min (a0.size : Int) 1000).toNat)) (by omega) k hk2 hk hmm x hx
  rw [← hps] at hno
  have hpk := Lib.hid (pack_named (a0.extract 0 (min (a0.size : Int) 1000).toNat) ps (by omega) hps)
  obtain ⟨hpl1, hpl0⟩ := hpl
  obtain ⟨k, hk⟩ : ∃ k : Nat, (2 : Int) + (m : Int) % ((ps.length : Int) * 32 - 2) = (k : Int) := by
    refine ⟨2 + m % (ps.length * 32 - 2), ?_⟩
    rw [show (ps.length : Int) * 32 - 2 = ((ps.length * 32 - 2 : Nat) : Int) from by omega, ← Int.natCast_emod]
    omega
  have hkn : 2 ≤ k ∧ k < 32 * ps.length := by
    have h1 := Int.emod_nonneg (m : Int) (show (ps.length : Int) * 32 - 2 ≠ 0 by omega)
    have h2 := Int.emod_lt_of_pos (m : Int) (show 0 < (ps.length : Int) * 32 - 2 by omega)
    omega
  obtain ⟨hk2, hkl⟩ := hkn
  have hq : k / 32 < ps.length := by omega
  have hr : k % 32 < ps[k / 32].length := by rw [h32 _ hq]; omega
  have Hno := Lib.hid (fun x hx => hno k hk2 hq hr x hx)
  have hkw : wrap64 ((2 : Int) + (m : Int) % ((ps.length : Int) * 32 - 2)) = (k : Int) := by rw [hk]; unfold wrap64; omega
  have hpz := h32 _ hq
  have hn0 : ((ps.length : Int) == 0) = false := by rw [beq_eq_false_iff_ne]; omega
  clear hps hsl htl hno hk
  go_enter Tryd.func6, Tryd.ntmps6
  go_wp2_with (go_at_call 8; refine (hpk.out _ HT.out).mono ?_)
  rintro e W1 ⟨v, rfl, hown, b1⟩
  obtain ⟨g, c, rfl, hgw, hgs⟩ := owns_block hown hpl0
  have hblX := bl_str ps[k / 32]
  have hXs : (str ps[k / 32]).size = 32 := by rw [str_size]; exact hpz
  have hcell := World.ownsRow.cellAt hown (k / 32) (by omega)
  simp only [strVals, List.getElem?_map, List.getElem?_eq_getElem hq, Option.map_some] at hcell
  have hrX : k % 32 < (str ps[k / 32]).size := by omega
  have hcv := Lib.run_convert_string_bytes (P := Tryd.prog) W1 9 33 5 (str ps[k / 32]) Tryd.underlying9 Tryd.underlying33 Tryd.underlying5
  have hbc := bytesWorld_at W1 (str ps[k / 32]) (k % 32) hrX
  have hfree := bytesWorld_free W1 (str ps[k / 32]) (k % 32) hrX
  have hback := conv_set W1 (str ps[k / 32]) (k % 32) (grownCap W1 (str ps[k / 32]).size 0 5) y hrX
  have bW := bytesWorld_below W1 (str ps[k / 32])
  have bW5 := bW.setCell (p := ⟨W1.heap.size, k % 32, none⟩) (Nat.le_refl _) (.int .u8 (y.toNat : Int))
  have hown5 := owns_kept hown bW5
  have hcell5 := World.ownsRow.cellAt hown5 (k / 32) (by omega)
  simp only [strVals, List.getElem?_map, List.getElem?_eq_getElem hq, Option.map_some] at hcell5
  have hfr5 := World.ownsRow.frozenAt hown5 (k / 32)
  have hown6 := owns_set hown5 (k / 32) ((bl (str ps[k / 32])).set (k % 32) y)
  have b15 := below_step b1 bW5
  have b14 := below_step b1 bW
  have b16 := b15.setCell (p := ⟨g, k / 32, none⟩) hgw (.string (str ((bl (str ps[k / 32])).set (k % 32) y)))
  have h4 := Lib.hid (HT.out.below b14 hg)
  have h6 := Lib.hid (HT.out.below b16 hg)
  have hzb : (bl (str ps[k / 32]))[k % 32]'(by rw [bl_len]; exact hrX) = ps[k / 32][k % 32] := List.getElem_of_eq hblX _
  rw [hXs] at hback hcv
  have Hown6 := Lib.hid hown6
  have Hno2 : Hid (y ≠ ps[k / 32][k % 32] → ∀ u, ¬ IsText (ps.set (k / 32) ((bl (str ps[k / 32])).set (k % 32) y)) u) := Lib.hid (fun hy u hu => Hno.out y hy u (by rw [hblX] at hu; exact hu))
  have hset : ((bl (str ps[k / 32])).set (k % 32) y).length = 32 := by rw [List.length_set, hblX]; exact hpz
  have h32' : ∀ i (h : i < (ps.set (k / 32) ((bl (str ps[k / 32])).set (k % 32) y)).length), (ps.set (k / 32) ((bl (str ps[k / 32])).set (k % 32) y))[i].length = 32 := by
    intro i h
    rw [List.getElem_set]
    split
    · exact hset
    · exact h32 i (by simpa using h)
  have hfl := flatten_length32 _ h32'
  have hsl : (ps.set (k / 32) ((bl (str ps[k / 32])).set (k % 32) y)).length = ps.length := List.length_set ..
  rw [hsl] at hfl
  have Hfl := Lib.hid hfl
  have Hsl := Lib.hid hsl
  have bWx := bW
  clear hown hown5 hown6 Hno hblX hset h32' h32 hfl hsl bW bW5 b14
  generalize (bl (str ps[k / 32]))[k % 32]'(by rw [bl_len]; exact hrX) = z at *
  rw [← hzb] at Hno2
  generalize hps' : ps.set (k / 32) ((bl (str ps[k / 32])).set (k % 32) y) = ps' at *
  clear hps' hzb
  generalize (bl (str ps[k / 32])).set (k % 32) y = p' at *
  generalize str ps[k / 32] = X at *
  generalize str p' = X' at *
  generalize Lib.bytesWorld W1 5 X = W4 at *
  by_cases hy : y = z
  · subst hy
    go_wp2_with (go_at_call 13; refine (fworks_any _ h4.out).mono ?_)
    rintro e W7 ⟨rfl, b7⟩
    have b17 := below_step (below_step b1 bWx) b7
    go_wp2
    go_ret
    exact ⟨rfl, b17⟩
  · have hne : ((z.toNat : Int) == (y.toNat : Int)) = false := by
      rw [beq_eq_false_iff_ne]
      intro h
      exact hy (UInt8.toNat_inj.1 (by omega))
    have hno := Lib.hid (Hno2.out hy)
    have hst6 : StrsAt ((W4.setCell ⟨W1.heap.size, k % 32, none⟩ (.int .u8 (y.toNat : Int))).setCell ⟨g, k / 32, none⟩ (.string X')) (some ⟨g, 0, none⟩) ps' := by
      obtain ⟨a2, c2, hv2, _, _, hs2, _, _⟩ := Hown6.out.view
      simp only [Value.slice.injEq] at hv2
      obtain ⟨rfl, _, _⟩ := hv2
      exact hs2
    have hun := unpack_none _ c ps' _ hst6 (by have := Hsl.out; omega) (by have := Hfl.out; omega) hno.out h6.out
    rw [Hsl.out] at hun
    have Hun := Lib.hid hun
    clear hun hst6 hno Hno2 Hown6
    go_wp2_with (go_at_call 14; refine Hun.out.mono ?_)
    rintro e W7 ⟨rfl, b7⟩
    have b17 := below_step b16 b7
    have h7 := Lib.hid (HT.out.below b17 hg)
    clear b7 b16 b15
    go_wp2_with (go_at_call 13; refine (fworks_any _ h7.out).mono ?_)
    rintro e W8 ⟨rfl, b8⟩
    have b18 := below_step b17 b8
    go_wp2
    go_ret
    exact ⟨rfl, b18⟩

theorem frameSpoilt_walk (a0 : ByteArray) (s0 : a0.size ≤ 140737488351232) (a1 : Int) (w1 : (Lit.int .u16 a1).wf = true) (a2 : Int) (w2 : (Lit.int .u8 a2).wf = true) (w : World) (ht : CTab w) :
    Calls Tryd.prog 6 #[.string a0, .int .u16 a1, .int .u8 a2] w (okTrue w) := by
  obtain ⟨y, rfl⟩ := byte_of a2 w2
  have hb := bounds_u16 w1
  obtain ⟨m, rfl⟩ := Int.eq_ofNat_of_zero_le hb.1
  exact spoilt_at a0 s0 m (by omega) y w ht

end Go.Proofs.YtpjjmaknajjimaaDoor
