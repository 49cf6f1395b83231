/- What Write of package disk does, where it is done: its tail. -/
import Derived.Test.YtbpkgfhhoejmcaaDkApp
import Derived.Test.YtbpkgfhhoejmcaaDkFit3
namespace Go.Proofs.Ytbpkgfhhoejmcaa.dk
open Go Go.RowKit

section
variable {w : World} {p m : Nat} {v : Value} {d : DD} {own : Nat → Prop}

theorem oper_rest (d : DD) : d.oper.base = d.base ∧ d.oper.more = d.more ∧ d.oper.room = d.room := by
  unfold DD.oper DD.off
  split
  · exact ⟨rfl, rfl, rfl⟩
  · split <;> exact ⟨rfl, rfl, rfl⟩
theorem oper_now (d : DD) : d.oper.now = d.now := by unfold DD.now; rw [(oper_rest d).1, (oper_rest d).2.1]
theorem oper_n (d : DD) : d.oper.n = d.n := by unfold DD.n; rw [(oper_rest d).1]

theorem fits_one (d : DD) (k : Int) (hh : d.has k = true) : d.fits [k] = ((look d.now k).isSome || decide ((d.used : Int) < d.room)) := by
  unfold DD.fits
  simp only [List.all_cons, List.all_nil, hh, Bool.and_self, Bool.true_and, fresh]
  by_cases hx : (look d.now k).isSome = true
  · simp [hx]
  · simp [hx]
    omega

theorem ints_one (w : World) (k : Int) (h0 : -9223372036854775808 ≤ k) (h1 : k ≤ 9223372036854775807) : IntsAt (w.alloc (.cells #[.int .i64 k] 3)) (some ⟨w.heap.size, 0, none⟩) [k] := by
  intro i h
  have hi : i = 0 := by simpa using h
  subst hi
  refine ⟨w.heap.size, 0, rfl, by simp, ?_, h0, h1⟩
  rw [cell_of_row _ _ _ _ _ _ (heap_alloc_new w _)]
  rfl

theorem write_off {most : Nat} (h : DkIs most w own p d) (hon : d.on = false) (k : Int) (s : ByteArray) :
    Calls Try.prog 10 #[.pointer (some ⟨p, 0, none⟩), .int .i64 k, .string s] w (DkPost most own p d (.int .i64 6) w) := by
  have H := Lib.hid h
  obtain ⟨h0, m, v, h1⟩ := h
  obtain ⟨c0, c1, c2, c3, c4, c5⟩ := blk6 h1.1
  rw [hon] at c4
  clear h0 h1 c0 c1 c2 c3 c5 hon
  go_enter Try.func10, Try.ntmps10
  go_wp2_with fail
  go_ret
  exact ⟨rfl, own, H.out, But.refl _ _, Grows.refl _ _⟩

theorem write_not {most : Nat} (h : DkIs most w own p d) (hon : d.on = true) (k : Int) (hh : d.has k = false) (s : ByteArray) :
    Calls Try.prog 10 #[.pointer (some ⟨p, 0, none⟩), .int .i64 k, .string s] w (DkPost most own p d (.int .i64 2) w) := by
  have H := Lib.hid h
  obtain ⟨h0, m, v, h1⟩ := h
  have hhas := has_any h1 k
  rw [hh] at hhas
  have HH := Lib.hid hhas
  obtain ⟨c0, c1, c2, c3, c4, c5⟩ := blk6 h1.1
  rw [hon] at c4
  clear h0 h1 c0 c1 c2 c3 c5 hon hhas hh
  go_enter Try.func10, Try.ntmps10
  go_wp2_with (go_at_call 26; refine HH.out.mono ?_; rintro e w' ⟨rfl, rfl⟩)
  go_ret
  exact ⟨rfl, own, H.out, But.refl _ _, Grows.refl _ _⟩

theorem write_len {most : Nat} (h : DkIs most w own p d) (hon : d.on = true) (k : Int) (hh : d.has k = true) (s : ByteArray) (hs : s.size ≠ 32) :
    Calls Try.prog 10 #[.pointer (some ⟨p, 0, none⟩), .int .i64 k, .string s] w (DkPost most own p d (.int .i64 2) w) := by
  have H := Lib.hid h
  obtain ⟨h0, m, v, h1⟩ := h
  have hhas := has_any h1 k
  rw [hh] at hhas
  have HH := Lib.hid hhas
  obtain ⟨c0, c1, c2, c3, c4, c5⟩ := blk6 h1.1
  rw [hon] at c4
  have hsz : ((s.size : Int) == 32) = false := by rw [beq_eq_false_iff_ne]; omega
  clear h0 h1 c0 c1 c2 c3 c5 hon hhas hh hs
  go_enter Try.func10, Try.ntmps10
  go_wp2_with (go_at_call 26; refine HH.out.mono ?_; rintro e w' ⟨rfl, rfl⟩)
  go_ret
  exact ⟨rfl, own, H.out, But.refl _ _, Grows.refl _ _⟩

theorem write_full {most : Nat} (h : DkIs most w own p d) (hon : d.on = true) (k : Int) (hh : d.has k = true) (s : ByteArray) (hs : s.size = 32) (hf : d.fits [k] = false) :
    Calls Try.prog 10 #[.pointer (some ⟨p, 0, none⟩), .int .i64 k, .string s] w (DkPost most own p d (.int .i64 7) w) := by
  have hk0 : 0 ≤ k ∧ k < (d.n : Int) := by simpa [DD.has] using hh
  have hn := h.1.n1
  have h2 : DkIs most (w.alloc (.cells #[.int .i64 k] 3)) own p d := h.keep (by simp) (fun j hj => Below.heap_alloc _ _ _ (h.2.choose_spec.choose_spec.2.2.2.2.2.2 j hj))
  have HF := Lib.hid (fits_any h2 _ 1 [k] (ints_one w k (by omega) (by omega)) (by simp))
  rw [hf] at HF
  have H := Lib.hid h
  have H2 := Lib.hid h2
  have hlow : ∀ j, own j → j < w.heap.size := fun j hj => h.2.choose_spec.choose_spec.2.2.2.2.2.2 j hj
  have HL := Lib.hid hlow
  obtain ⟨h0, m, v, h1⟩ := h
  have hhas := has_any h1 k
  rw [hh] at hhas
  have HH := Lib.hid hhas
  obtain ⟨c0, c1, c2, c3, c4, c5⟩ := blk6 h1.1
  rw [hon] at c4
  have hsz : ((s.size : Int) == 32) = true := by rw [beq_iff_eq]; omega
  clear h0 h1 c0 c1 c2 c3 c5 hon hhas hh hs hf h2 hlow hk0 hn
  go_enter Try.func10, Try.ntmps10
  go_wp2_with (first | (go_at_call 26; refine HH.out.mono ?_; rintro e w' ⟨rfl, rfl⟩) | (go_at_call 19; refine HF.out.mono ?_; rintro e w2 ⟨rfl, hb2⟩; have HB2 := Lib.hid hb2; clear hb2))
  go_ret
  have hB : Below w.heap.size w w2 := ((Below.refl _ w).alloc (Nat.le_refl _) _).trans (HB2.out.mono (by simp))
  exact ⟨rfl, own, H.out.keep hB.size (fun j hj => hB.block j (HL.out j hj)), But.of_below hB, Grows.refl _ _⟩
end
end Go.Proofs.Ytbpkgfhhoejmcaa.dk
