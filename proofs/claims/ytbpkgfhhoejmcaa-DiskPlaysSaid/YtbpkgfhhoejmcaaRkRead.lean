/- What Read of the document's disk does. -/
import Derived.Test.YtbpkgfhhoejmcaaRkWrite
namespace Go.Proofs.Ytbpkgfhhoejmcaa.dk
open Go Go.RowKit

theorem exec_makeZ {ρ : Operand → Value} {o : Oper} {w : World} (x y : Operand) (ho : o.op = .makeSlice 67 x y) (hx : ρ x = .int .i64 32) (hy : ρ y = .int .i64 32) :
    (execOp ρ o).run Try.prog w = .ok (.value (.slice (some ⟨w.heap.size, 0, none⟩) 32 32)) (w.alloc (.cells (Lib.byteCells zz).toArray 5)) :=
  exec_make32 x y 32 ho hx hy (by decide)

section
variable {w : World} {own : Nat → Prop} {p gb cb gn cn : Nat} {v : Value} {d : DD}

theorem rread_off {most : Nat} (h : RkIs most w own p d) (hon : d.on = false) (k : Int) :
    Calls Try.prog 34 #[.pointer (some ⟨p, 0, none⟩), .int .i64 k] w (ReadPost ([], 6) w) := by
  obtain ⟨h0, gb, cb, gn, cn, v, h1⟩ := h
  obtain ⟨c0, c1, c2, c3, c4, c5, c6, c7⟩ := blk8 h1.blk
  rw [hon] at c7
  clear h0 h1 c0 c1 c2 c3 c4 c5 c6 hon
  go_enter Try.func34, Try.ntmps34
  go_wp2_with fail
  go_ret2
  exact ⟨rfl, Below.refl _ _⟩

theorem rread_not {most : Nat} (h : RkIs most w own p d) (hon : d.on = true) (k : Int) (hh : d.has k = false) :
    Calls Try.prog 34 #[.pointer (some ⟨p, 0, none⟩), .int .i64 k] w (ReadPost ([], 2) w) := by
  obtain ⟨h0, gb, cb, gn, cn, v, h1⟩ := h
  obtain ⟨c0, c1, c2, c3, c4, c5, c6, c7⟩ := blk8 h1.blk
  rw [hon] at c7
  have hd : k < 0 ∨ (0 ≤ k ∧ (d.n : Int) ≤ k) := by
    by_cases k0 : k < 0
    · exact .inl k0
    · by_cases k1 : (d.n : Int) ≤ k
      · exact .inr ⟨by omega, k1⟩
      · exact absurd hh (by simp [DD.has]; omega)
  generalize (d.n : Int) = n at *
  clear h0 h1 c1 c2 c3 c4 c5 c6 hon hh
  rcases hd with k0 | ⟨k0, k1⟩
  all_goals
    go_enter Try.func34, Try.ntmps34
    go_wp2_with fail
    go_ret2
    exact ⟨rfl, Below.refl _ _⟩

theorem rread_is {most : Nat} (h : RkIs most w own p d) (hon : d.on = true) (k : Nat) (hk : k < d.n) :
    Calls Try.prog 34 #[.pointer (some ⟨p, 0, none⟩), .int .i64 (k : Int)] w (ReadPost ((look d.now (k : Int)).getD zz, 0) w) := by
  have hlen : d.now.length = d.n := d.now_length
  obtain ⟨h0, gb, cb, gn, cn, v, hr⟩ := h
  have hc := hr.now.cell k (by omega)
  have he := sStr_some (look d.now (k : Int)) (fun u hu => h0.look1 hu)
  have i0 : (0 : Int) ≤ (k : Int) := by omega
  have i1 : (k : Int) < (d.n : Int) := by omega
  obtain ⟨c0, c1, c2, c3, c4, c5, c6, c7⟩ := blk8 hr.blk
  rw [hon] at c7
  clear h0 hr c1 c2 c4 c5 c6 hon hlen hk
  cases hx : look d.now (k : Int) with
  | none =>
    rw [hx] at hc he
    simp only [Option.isSome_none, Bool.not_false] at he
    generalize sStr none = S at *
    have hconv := conv_part zz (Lib.byteCells zz).toArray w.heap.size 32 5 (w.alloc (.cells (Lib.byteCells zz).toArray 5)) (heap_alloc_new w _) (fun j u hu => by simpa using hu)
    rw [zz_length] at hconv
    have HC := Lib.hid hconv
    clear hconv hx
    go_enter Try.func34, Try.ntmps34
    go_wp2_with (refine wpList_value rfl (exec_makeZ _ _ rfl rfl rfl) ?_; have hconv := HC.out)
    go_ret2
    exact ⟨rfl, (Below.refl _ _).alloc (Nat.le_refl _) _⟩
  | some u =>
    rw [hx] at hc he
    simp only [Option.isSome_some, Bool.not_true] at he
    have HS : Hid (sStr (some u) = str u) := rfl
    generalize sStr (some u) = S at *
    clear hx
    go_enter Try.func34, Try.ntmps34
    go_wp2_with fail
    go_ret2
    exact ⟨by rw [HS.out]; rfl, Below.refl _ _⟩

theorem rread_any {most : Nat} (h : RkIs most w own p d) (k : Int) :
    Calls Try.prog 34 #[.pointer (some ⟨p, 0, none⟩), .int .i64 k] w (ReadPost (d.read k) w) := by
  unfold DD.read
  by_cases h1 : d.on = false
  · rw [if_pos h1]
    exact rread_off h h1 k
  · rw [if_neg h1]
    have hon : d.on = true := by simpa using h1
    by_cases h2 : d.has k = false
    · rw [if_pos h2]
      exact rread_not h hon k h2
    · rw [if_neg h2]
      have hk0 : 0 ≤ k ∧ k < (d.n : Int) := by simpa [DD.has] using h2
      obtain ⟨k, rfl⟩ : ∃ j : Nat, k = (j : Int) := ⟨k.toNat, by omega⟩
      exact rread_is h hon k (by omega)
end
end Go.Proofs.Ytbpkgfhhoejmcaa.dk
