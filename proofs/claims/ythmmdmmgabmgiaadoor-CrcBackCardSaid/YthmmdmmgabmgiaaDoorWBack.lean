/- The walk of CrcBack. -/
import Derived.Test.YthmmdmmgabmgiaaDoorCWorks
import Derived.Test.YthmmdmmgabmgiaaDoorWOne
import Derived.Lib.ConvBytes
namespace Go.Proofs.YthmmdmmgabmgiaaDoor
open Go.RowKit

theorem copen_at (s t : ByteArray) (w : World) (hr : s.size ≤ 140737488355328) (ht : CTab w) (h : openB (bl s) = some (bl t)) :
    Calls Tryd.prog 14 #[.string s] w fun e w' => e = .returned (.tuple #[.string t, .bool true]) ∧ Below w.heap.size w w' := by
  have := copen_some s (bl t) w hr ht h
  rwa [str_bl] at this

theorem bytesWorld_below (w : World) (s : ByteArray) : Below w.heap.size w (Lib.bytesWorld w 5 s) :=
  ⟨rfl, rfl, rfl, by rw [Lib.bytesWorld_size]; omega, fun k hk => Lib.bytesWorld_at_old w 5 s k hk⟩

theorem bytesWorld_at (w : World) (s : ByteArray) (i : Nat) (h : i < s.size) : (Lib.bytesWorld w 5 s).cell? ⟨w.heap.size, i, none⟩ = some (.int .u8 (((bl s)[i]'(by rw [bl_len]; exact h)).toNat : Int)) := by
  rw [Lib.bytesWorld_cell w 5 s i h]
  have : s.data.toList.getD i 0 = (bl s)[i]'(by rw [bl_len]; exact h) := by simp [bl, h]
  rw [this]

theorem bytesWorld_free (w : World) (s : ByteArray) (i : Nat) (h : i < s.size) : (Lib.bytesWorld w 5 s).frozen? ⟨w.heap.size, i, none⟩ = false := by
  have hc := grownCap_ge w s.size 0 5
  have hs : s.size ≤ (Lib.bytesCells w 5 s).size := by
    have : s.size = s.data.size := rfl
    simp [Lib.bytesCells]
  simp [World.frozen?, Lib.bytesWorld_at_new]
  omega

/-- A string's bytes, one of them set, read as a string again. -/
theorem conv_set (w : World) (s : ByteArray) (i cap : Nat) (x : UInt8) (h : i < s.size) :
    (convert 29 9 (.slice (some ⟨w.heap.size, 0, none⟩) s.size cap)).run Tryd.prog ((Lib.bytesWorld w 5 s).setCell ⟨w.heap.size, i, none⟩ (.int .u8 (x.toNat : Int))) =
      .ok (.string (str ((bl s).set i x))) ((Lib.bytesWorld w 5 s).setCell ⟨w.heap.size, i, none⟩ (.int .u8 (x.toNat : Int))) := by
  have hl : ((bl s).set i x).length = s.size := by rw [List.length_set, bl_len]
  have := run_convert_bytes_back (P := Tryd.prog) ((Lib.bytesWorld w 5 s).setCell ⟨w.heap.size, i, none⟩ (.int .u8 (x.toNat : Int))) 29 9 5 ⟨w.heap.size, 0, none⟩ cap ((bl s).set i x) Tryd.underlying29 Tryd.underlying5 Tryd.underlying9 ?_
  · rw [hl] at this
    exact this
  · intro j hj
    have hj' : j < s.size := by omega
    rw [addr_add, Nat.zero_add]
    by_cases e : i = j
    · subst e
      rw [World.cell?_setCell_same _ _ _ (bytesWorld_at w s i h), List.getElem_set_self]
    · rw [World.cell?_setCell_other _ _ _ _ (fun h' => e (by simpa using congrArg Addr.off h')), bytesWorld_at w s j hj', List.getElem_set_ne e]

set_option maxHeartbeats 800000 in
theorem back_early (s : ByteArray) (s0 : s.size ≤ 140737488351232) (a : Int) (ha : -9223372036854775808 ≤ a ∧ a ≤ 9223372036854775807) (c : UInt8) (hc : a < 0 ∨ (0 ≤ a ∧ (s.size : Int) + 4 ≤ a) ∨ (0 ≤ a ∧ a < (s.size : Int) + 4 ∧ c = 0)) (w : World) (ht : CTab w) :
    Calls Tryd.prog 5 #[.string s, .int .i64 a, .int .u8 (c.toNat : Int)] w (okTrue w) := by
  have HT := Lib.hid ht
  have hg := ht.1
  clear ht
  have hz : (str (sealB (bl s))).size = s.size + 4 := by rw [str_size, sealB_length, bl_len]
  have ho : openB (bl (str (sealB (bl s)))) = some (bl s) := by rw [bl_str, openB_sealB]
  have Ho := Lib.hid ho
  have Hz := Lib.hid hz
  clear ho hz
  have HS := Lib.hid (fun W hW => seal_any s W (by omega) hW)
  generalize str (sealB (bl s)) = t at *
  go_enter Tryd.func5, Tryd.ntmps5
  go_wp2_with (go_at_call 13; refine (cworks_any _ HT.out).mono ?_)
  rintro e W1 ⟨rfl, b1⟩
  have h1 := Lib.hid (HT.out.below b1 hg)
  go_wp2_with (go_at_call 11; refine (HS.out _ h1.out).mono ?_)
  rintro e W2 ⟨rfl, b2⟩
  have b12 := below_step b1 b2
  have h2 := Lib.hid (HT.out.below b12 hg)
  have hts : t.size ≤ 140737488355328 := by have := Hz.out; omega
  clear b1 b2 h1
  go_wp2_with (go_at_call 14; refine (copen_at t s _ hts h2.out Ho.out).mono ?_)
  rintro e W3 ⟨rfl, b3⟩
  have b13 := below_step b12 b3
  have hz := Hz.out
  clear b12 b3
  rcases hc with h | ⟨h, h'⟩ | ⟨h, h', rfl⟩
  · go_wp2
    go_ret
    exact ⟨rfl, b13⟩
  · have hn : ¬ a < 0 := by omega
    go_wp2
    go_ret
    exact ⟨rfl, b13⟩
  · have hn : ¬ a < 0 := by omega
    go_wp2
    go_ret
    exact ⟨rfl, b13⟩

theorem xor_ne (a c : UInt8) (h : c ≠ 0) : a ^^^ c ≠ a := by
  intro e
  apply h
  apply UInt8.toNat_inj.1
  have h1 := congrArg UInt8.toNat e
  rw [UInt8.toNat_xor] at h1
  have h2 : a.toNat ^^^ c.toNat = a.toNat ^^^ 0 := by rw [h1, Nat.xor_zero]
  exact xor_left_cancel _ _ _ h2

set_option maxHeartbeats 800000 in
theorem back_late (s : ByteArray) (s0 : s.size ≤ 140737488351232) (i : Nat) (hi : i < s.size + 4) (c : UInt8) (hc : c ≠ 0) (w : World) (ht : CTab w) :
    Calls Tryd.prog 5 #[.string s, .int .i64 (i : Int), .int .u8 (c.toNat : Int)] w (okTrue w) := by
  have HT := Lib.hid ht
  have hg := ht.1
  clear ht
  have hz : (str (sealB (bl s))).size = s.size + 4 := by rw [str_size, sealB_length, bl_len]
  have ho : openB (bl (str (sealB (bl s)))) = some (bl s) := by rw [bl_str, openB_sealB]
  have hno : ∀ (x : UInt8) (hi' : i < (bl (str (sealB (bl s)))).length), x ≠ (bl (str (sealB (bl s))))[i] → openB ((bl (str (sealB (bl s)))).set i x) = none := by
    rw [bl_str]
    intro x hi' hx
    exact openB_other (bl s) i hi' x hx
  have Ho := Lib.hid ho
  have Hz := Lib.hid hz
  have Hno := Lib.hid hno
  clear ho hz hno
  have HS := Lib.hid (fun W hW => seal_any s W (by omega) hW)
  generalize str (sealB (bl s)) = t at *
  have hit : i < t.size := by have := Hz.out; omega
  have hil : i < (bl t).length := by rw [bl_len]; exact hit
  have hx0 := u8_lt (bl t)[i]
  have hc0 := u8_lt c
  have hxor : bits .xor .u8 ((bl t)[i].toNat : Int) (c.toNat : Int) = (((bl t)[i] ^^^ c).toNat : Int) := by
    rw [u8_xor_nat _ _ hx0 hc0, UInt8.toNat_xor]
  have hnone := Hno.out ((bl t)[i] ^^^ c) hil (xor_ne _ _ hc)
  have hc1 : ((c.toNat : Int) == 0) = false := by
    rw [beq_eq_false_iff_ne]
    intro h
    exact hc (UInt8.toNat_inj.1 (by simpa using h))
  have Hnone := Lib.hid hnone
  clear hc hnone
  go_enter Tryd.func5, Tryd.ntmps5
  go_wp2_with (go_at_call 13; refine (cworks_any _ HT.out).mono ?_)
  rintro e W1 ⟨rfl, b1⟩
  have h1 := Lib.hid (HT.out.below b1 hg)
  go_wp2_with (go_at_call 11; refine (HS.out _ h1.out).mono ?_)
  rintro e W2 ⟨rfl, b2⟩
  have b12 := below_step b1 b2
  have h2 := Lib.hid (HT.out.below b12 hg)
  have hts : t.size ≤ 140737488355328 := by have := Hz.out; omega
  clear b1 b2 h1
  go_wp2_with (go_at_call 14; refine (copen_at t s _ hts h2.out Ho.out).mono ?_)
  rintro e W3 ⟨rfl, b3⟩
  have b13 := below_step b12 b3
  clear b12 b3
  have hcv := Lib.run_convert_string_bytes (P := Tryd.prog) W3 9 29 5 t Tryd.underlying9 Tryd.underlying29 Tryd.underlying5
  have hcell := bytesWorld_at W3 t i hit
  have hfree := bytesWorld_free W3 t i hit
  have hback := conv_set W3 t i (grownCap W3 t.size 0 5) ((bl t)[i] ^^^ c) hit
  have b14 := below_step b13 (bytesWorld_below W3 t)
  have b15 := b14.setCell (p := ⟨W3.heap.size, i, none⟩) b13.size (.int .u8 (((bl t)[i] ^^^ c).toNat : Int))
  have h5 := Lib.hid (HT.out.below b15 hg)
  have hzs : (str ((bl t).set i ((bl t)[i] ^^^ c))).size ≤ 140737488355328 := by rw [str_size, List.length_set, bl_len]; exact hts
  generalize hnew : str ((bl t).set i ((bl t)[i] ^^^ c)) = t' at *
  have hno : openB (bl t') = none := by rw [← hnew, bl_str]; exact Hnone.out
  have Hn := Lib.hid hno
  generalize Lib.bytesWorld W3 5 t = W4 at *
  generalize grownCap W3 t.size 0 5 = cap at *
  generalize ((bl t)[i] ^^^ c) = x at *
  generalize (bl t)[i] = y at *
  have hz := Hz.out
  rw [hz] at hback
  clear b13 b14 hno hnew h2
  go_wp2_with (go_at_call 14; refine (copen_none t' _ hzs h5.out Hn.out).mono ?_)
  rintro e W5 ⟨rfl, b5⟩
  have b16 := below_step b15 b5
  clear b15 b5 h5
  go_wp2
  go_ret
  exact ⟨rfl, b16⟩

theorem crcBack_walk (a0 : ByteArray) (s0 : a0.size ≤ 140737488351232) (a1 : Int) (w1 : (Lit.int .i64 a1).wf = true) (a2 : Int) (w2 : (Lit.int .u8 a2).wf = true) (w : World) (ht : CTab w) :
    Calls Tryd.prog 5 #[.string a0, .int .i64 a1, .int .u8 a2] w (okTrue w) := by
  obtain ⟨c, rfl⟩ := byte_of a2 w2
  have hb := bounds_i64 w1
  by_cases h : a1 < 0 ∨ (0 ≤ a1 ∧ (a0.size : Int) + 4 ≤ a1) ∨ (0 ≤ a1 ∧ a1 < (a0.size : Int) + 4 ∧ c = 0)
  · exact back_early a0 s0 a1 hb c h w ht
  · obtain ⟨i, rfl⟩ := Int.eq_ofNat_of_zero_le (show 0 ≤ a1 from by omega)
    have hi : i < a0.size + 4 := by omega
    have hc : c ≠ 0 := fun e => h (.inr (.inr ⟨by omega, by omega, e⟩))
    exact back_late a0 s0 i hi c hc w ht

end Go.Proofs.YthmmdmmgabmgiaaDoor
