/- LnApp. -/
import Derived.Test.YtbbgeccbdellmaaQ1
set_option linter.unusedVariables false
set_option linter.unusedSimpArgs false
/- A list of guids appended to one of the call's own. -/
namespace Go.Proofs.Ytbbgeccbdellmaa.ln
open Go Go.RowKit Go.Sort Go.Proofs.Ytbbgeccbdellmaa.ib Go.Proofs.Ytbbgeccbdellmaa.lg
set_option maxRecDepth 100000

theorem wpList_append_gd {w : World} {ops : Array Oper} {rest : List Oper} {o : Oper} {a : Act} {Q : Exit → Act → World → Prop} (hgd : o.guard = none) (s x : Operand)
    (ho : o.op = .call { callee := .builtin .append, args := #[s, x], argTypes := #[23, 23] })
    (B : Nat) (v : Value) (l : List Gd) (hs : a.eval s = v) (hown : OGd w B v l) (A : Option Addr) (m : List Gd) (c : Nat) (hx : a.eval x = .slice A m.length c) (hA : GdL w A m c)
    (hn : l.length + m.length ≤ 8000000) (hB : B ≤ w.heap.size)
    (h : ∀ v' w', OGd w' B v' (l ++ m) → w.grownBy w' v.ownBlock → wpList Try.prog ops Q rest (a.put o.dst v') w') : wpList Try.prog ops Q (o :: rest) a w := by
  obtain ⟨i0, hi, hz0, hz1, hz2⟩ := info_parts infoGd
  cases A with
  | none =>
    obtain ⟨h1, rfl⟩ := hA.nil rfl
    obtain rfl : m = [] := List.length_eq_zero_iff.1 h1
    refine wpList_append_own_none hgd s x 23 ho B 34 i0 2 Try.underlying23 hi v l.length (gdRow l) hs hown hx ?_
    exact h v w (by rw [List.append_nil]; exact hown) ⟨rfl, rfl, rfl, Nat.le_refl _, fun _ _ _ => rfl⟩
  | some ad =>
    refine wpList_append_own _ hgd s x 23 ho B 34 i0 (.agg #[.int .u64 0, .int .u64 0]) 2 16 Try.underlying23 hi hz0 hz1 hz2 rfl (by decide) v l.length (gdRow l) hs hown ad m.length c (gdRow m) hx (gdRow_len m) (gdAt_row hA.gds) (gdRow_ones m) (by unfold maxLen; omega) (by omega) hB ?_
    intro v' w' h2 h3 _
    exact h v' w' (OGd.app h2) h3
theorem wp_append_gd {w : World} {o : Oper} {a : Act} {K : Act → World → Prop} {Q : Exit → Act → World → Prop} (s x : Operand)
    (ho : o.op = .call { callee := .builtin .append, args := #[s, x], argTypes := #[23, 23] })
    (B : Nat) (v : Value) (l : List Gd) (hs : a.eval s = v) (hown : OGd w B v l) (ad : Addr) (m : List Gd) (c : Nat) (hx : a.eval x = .slice (some ad) m.length c) (hA : GdL w (some ad) m c)
    (hn : l.length + m.length ≤ 8000000) (hB : B ≤ w.heap.size)
    (h : ∀ v' w', OGd w' B v' (l ++ m) → w.grownBy w' v.ownBlock → K (a.put o.dst v') w') : o.wp Try.prog a w K Q := by
  obtain ⟨i0, hi, hz0, hz1, hz2⟩ := info_parts infoGd
  exact wp_append_own w s x 23 ho B 34 i0 (.agg #[.int .u64 0, .int .u64 0]) 2 16 Try.underlying23 hi hz0 hz1 hz2 rfl (by decide) v l.length (gdRow l) hs hown ad m.length c (gdRow m) hx (gdRow_len m) (gdAt_row hA.gds) (gdRow_ones m) (by unfold maxLen; omega) (by omega) hB fun v' w' h2 h3 _ => h v' w' (OGd.app h2) h3
theorem ogd_slice {w : World} {B : Nat} {v : Value} {l : List Gd} (h : OGd w B v l) : ∃ X c, v = .slice X l.length c := by
  obtain ⟨X, c, e, _⟩ := OGd.viewL h
  exact ⟨X, c, e⟩
end Go.Proofs.Ytbbgeccbdellmaa.ln

