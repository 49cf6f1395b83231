/- What Write of the document's disk does, where it is refused. -/
import Derived.Test.YtbpkgfhhoejmcaaRkPut
namespace Go.Proofs.Ytbpkgfhhoejmcaa.dk
open Go Go.RowKit

section
variable {w : World} {own : Nat → Prop} {p gb cb gn cn : Nat} {v : Value} {d : DD}

theorem RkIs.low {most : Nat} (h : RkIs most w own p d) : ∀ j, own j → j < w.heap.size := by
  obtain ⟨_, gb, cb, gn, cn, v, h1⟩ := h
  exact h1.low
theorem RkIs.below {most : Nat} {w' : World} (h : RkIs most w own p d) (hb : Below w.heap.size w w') : RkIs most w' own p d :=
  h.keep hb.size (fun j hj => hb.block j (h.low j hj))

theorem rwrite_off {most : Nat} (h : RkIs most w own p d) (hon : d.on = false) (k : Int) (s : ByteArray) :
    Calls Try.prog 28 #[.pointer (some ⟨p, 0, none⟩), .int .i64 k, .string s] w (RkPost most own p d (.int .i64 6) w) := by
  have H := Lib.hid h
  obtain ⟨h0, gb, cb, gn, cn, v, h1⟩ := h
  obtain ⟨c0, c1, c2, c3, c4, c5, c6, c7⟩ := blk8 h1.blk
  rw [hon] at c7
  clear h0 h1 c0 c1 c2 c3 c4 c5 c6 hon
  go_enter Try.func28, Try.ntmps28
  go_wp2_with fail
  go_ret
  exact ⟨rfl, own, H.out, But.refl _ _, Grows.refl _ _⟩

theorem rwrite_not {most : Nat} (h : RkIs most w own p d) (hon : d.on = true) (k : Int) (s : ByteArray) (hh : d.has k = false ∨ s.size ≠ 32) :
    Calls Try.prog 28 #[.pointer (some ⟨p, 0, none⟩), .int .i64 k, .string s] w (RkPost most own p d (.int .i64 2) w) := by
  have H := Lib.hid h
  obtain ⟨h0, gb, cb, gn, cn, v, h1⟩ := h
  obtain ⟨c0, c1, c2, c3, c4, c5, c6, c7⟩ := blk8 h1.blk
  rw [hon] at c7
  have hd : k < 0 ∨ (0 ≤ k ∧ (d.n : Int) ≤ k) ∨ (0 ≤ k ∧ k < (d.n : Int) ∧ s.size ≠ 32) := by
    by_cases k0 : k < 0
    · exact .inl k0
    · by_cases k1 : (d.n : Int) ≤ k
      · exact .inr (.inl ⟨by omega, k1⟩)
      · rcases hh with hh | hh
        · exact absurd hh (by simp [DD.has]; omega)
        · exact .inr (.inr ⟨by omega, by omega, hh⟩)
  generalize (d.n : Int) = n at *
  clear h0 h1 c1 c2 c3 c4 c5 c6 hon hh
  rcases hd with k0 | ⟨k0, k1⟩ | ⟨k0, k1, hs⟩
  · go_enter Try.func28, Try.ntmps28
    go_wp2_with fail
    go_ret
    exact ⟨rfl, own, H.out, But.refl _ _, Grows.refl _ _⟩
  · go_enter Try.func28, Try.ntmps28
    go_wp2_with fail
    go_ret
    exact ⟨rfl, own, H.out, But.refl _ _, Grows.refl _ _⟩
  · have hsz : ((s.size : Int) != 32) = true := by rw [bne_iff_ne]; omega
    clear hs
    go_enter Try.func28, Try.ntmps28
    go_wp2_with fail
    go_ret
    exact ⟨rfl, own, H.out, But.refl _ _, Grows.refl _ _⟩

theorem rwrite_full {most : Nat} (h : RkIs most w own p d) (hon : d.on = true) (k : Nat) (hk : k < d.n) (s : ByteArray) (hs : s.size = 32) (h1 : (look d.now (k : Int)).isSome = false) (h2 : d.room ≤ (d.used : Int)) :
    Calls Try.prog 28 #[.pointer (some ⟨p, 0, none⟩), .int .i64 (k : Int), .string s] w (RkPost most own p d (.int .i64 7) w) := by
  have H := Lib.hid h
  have hlen : d.now.length = d.n := d.now_length
  have hsz : ((s.size : Int) != 32) = false := by rw [bne_eq_false_iff_eq]; omega
  obtain ⟨h0, gb, cb, gn, cn, v, hr⟩ := h
  have hc := hr.now.cell k (by omega)
  have he := sStr_some (look d.now (k : Int)) (fun u hu => h0.look1 hu)
  rw [h1] at he
  simp only [Bool.not_false] at he
  have i0 : (0 : Int) ≤ (k : Int) := by omega
  have i1 : (k : Int) < (d.n : Int) := by omega
  obtain ⟨c0, c1, c2, c3, c4, c5, c6, c7⟩ := blk8 hr.blk
  rw [hon] at c7
  generalize sStr (look d.now (k : Int)) = S at *
  clear h0 hr c2 c5 c6 hon h1 hs hlen hk
  go_enter Try.func28, Try.ntmps28
  go_wp2_with fail
  go_quiet (fail)
  go_wp2_with fail
  go_ret
  exact ⟨rfl, own, H.out.keep (Nat.le_refl _) (fun _ _ => rfl), (But.refl _ _).drewN _, Grows.refl _ _⟩

theorem rwrite_gone {most : Nat} (h : RkIs most w own p d) (hon : d.on = true) (k : Nat) (hk : k < d.n) (s : ByteArray) (hs : s.size = 32) (h1 : (look d.now (k : Int)).isSome = true ∨ (d.used : Int) < d.room) (hop : d.oper.on = false) :
    Calls Try.prog 28 #[.pointer (some ⟨p, 0, none⟩), .int .i64 (k : Int), .string s] w (RkPost most own p d.oper (.int .i64 6) w) := by
  have H := Lib.hid h
  have hlen : d.now.length = d.n := d.now_length
  have hsz : ((s.size : Int) != 32) = false := by rw [bne_eq_false_iff_eq]; omega
  have HO := Lib.hid (fun (W : World) (hW : RkIs most W own p d) => roper_any hW hon)
  rw [hop] at HO
  obtain ⟨h0, gb, cb, gn, cn, v, hr⟩ := h
  have hc := hr.now.cell k (by omega)
  have he := sStr_some (look d.now (k : Int)) (fun u hu => h0.look1 hu)
  have i0 : (0 : Int) ≤ (k : Int) := by omega
  have i1 : (k : Int) < (d.n : Int) := by omega
  obtain ⟨c0, c1, c2, c3, c4, c5, c6, c7⟩ := blk8 hr.blk
  rw [hon] at c7
  clear h0 hr c2 c5 c6 hon hs hlen hk hop
  by_cases hx : (look d.now (k : Int)).isSome = true
  · rw [hx] at he
    simp only [Bool.not_true] at he
    generalize sStr (look d.now (k : Int)) = S at *
    clear h1 hx
    go_enter Try.func28, Try.ntmps28
    go_wp2_with fail
    go_quiet (fail)
    go_wp2_with fail
    refine (HO.out (w.drewN nq) (H.out.keep (Nat.le_refl _) (fun _ _ => rfl))).mono ?_
    rintro e w3 ⟨rfl, own3, hd3, hb3, hg3⟩
    go_wp2_with fail
    go_ret
    exact ⟨rfl, own3, hd3, ((But.refl own w).drewN _).trans hb3 (fun _ h => .inl h), hg3⟩
  · have hx' : (look d.now (k : Int)).isSome = false := by simpa using hx
    have hu : (d.used : Int) < d.room := by
      rcases h1 with h1 | h1
      · exact absurd h1 hx
      · exact h1
    have hu' : decide (d.room ≤ (d.used : Int)) = false := by rw [decide_eq_false_iff_not]; omega
    rw [hx'] at he
    simp only [Bool.not_false] at he
    generalize sStr (look d.now (k : Int)) = S at *
    clear h1 hx hx'
    go_enter Try.func28, Try.ntmps28
    go_wp2_with fail
    go_quiet (fail)
    go_wp2_with fail
    refine (HO.out (w.drewN nq) (H.out.keep (Nat.le_refl _) (fun _ _ => rfl))).mono ?_
    rintro e w3 ⟨rfl, own3, hd3, hb3, hg3⟩
    go_wp2_with fail
    go_ret
    exact ⟨rfl, own3, hd3, ((But.refl own w).drewN _).trans hb3 (fun _ h => .inl h), hg3⟩
end
end Go.Proofs.Ytbpkgfhhoejmcaa.dk
