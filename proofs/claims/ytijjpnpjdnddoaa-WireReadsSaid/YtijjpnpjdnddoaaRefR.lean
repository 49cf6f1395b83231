/- What the document's own reader does: Num, Text, OK, End of package stemmaref01. -/
import Derived.Test.YtijjpnpjdnddoaaText
import Derived.Deep.QuietTactic
import Derived.BigQuiet
namespace Go.Proofs.Ytijjpnpjdnddoaa
open Go.RowKit

/-- Block c is the document's reader that has s left. -/
def QAt (c : Nat) (s : ByteArray) (bad : Bool) (w : World) : Prop := w.heap[c]? = some (.cells #[.string s, .bool bad] 32 (0, 0)) ∧ s.size ≤ 1000000

theorem QAt.cells {c : Nat} {s : ByteArray} {bad : Bool} {w : World} (h : QAt c s bad w) :
    w.cell? ⟨c, 0, none⟩ = some (.string s) ∧ w.cell? ⟨c, 1, none⟩ = some (.bool bad) ∧ w.frozen? ⟨c, 0, none⟩ = false ∧ w.frozen? ⟨c, 1, none⟩ = false := by
  obtain ⟨hb, _⟩ := h
  exact ⟨by simp [World.cell?, hb], by simp [World.cell?, hb], by simp [World.frozen?, hb], by simp [World.frozen?, hb]⟩

theorem QAt.set0 {c : Nat} {s : ByteArray} {bad : Bool} {w : World} (h : QAt c s bad w) (t : ByteArray) (ht : t.size ≤ 1000000) : QAt c t bad (w.setCell ⟨c, 0, none⟩ (.string t)) := by
  have := heap_setCell_same w c 0 _ 32 (.string t) h.1
  exact ⟨by rw [this]; simp, ht⟩

theorem QAt.set1 {c : Nat} {s : ByteArray} {bad : Bool} {w : World} (h : QAt c s bad w) (x : Bool) : QAt c s x (w.setCell ⟨c, 1, none⟩ (.bool x)) := by
  have := heap_setCell_same w c 1 _ 32 (.bool x) h.1
  exact ⟨by rw [this]; simp, h.2⟩

theorem grown_set (c o : Nat) (w : World) (v : Value) : w.grownBy (w.setCell ⟨c, o, none⟩ v) (some c) :=
  ⟨rfl, rfl, rfl, by simp [World.setCell], fun k _ hk => Below.heap_setCell _ _ _ _ (fun e => hk (by simp [e]))⟩

theorem grown_drewN {w w' : World} {r : Option Nat} (h : w.grownBy w' r) (n : Nat) : w.grownBy (w'.drewN n) r := ⟨h.os, h.tape, h.output, h.size, h.block⟩

theorem grown_past {w w' : World} {r : Option Nat} {n : Nat} (h : (w.drewN n).grownBy w' r) : w.grownBy w' r := ⟨h.os, h.tape, h.output, h.size, h.block⟩

theorem fail_any (c : Nat) (s : ByteArray) (bad : Bool) (w : World) (h : QAt c s bad w) :
    Calls Try.prog 27 #[.pointer (some ⟨c, 0, none⟩)] w fun e w' => e = .returned (.tuple #[]) ∧ QAt c ⟨#[]⟩ true w' ∧ w.grownBy w' (some c) := by
  obtain ⟨h1, h2, h3, h4⟩ := h.cells
  have H := Lib.hid ((h.set0 ⟨#[]⟩ (by decide)).set1 true)
  have G := Lib.hid (grown_trans (grown_set c 0 w (.string ⟨#[]⟩)) (grown_set c 1 _ (.bool true)))
  clear h
  go_enter Try.func27, Try.ntmps27
  go_wp2
  go_end0
  exact ⟨rfl, H.out, G.out⟩

theorem q_ok (c : Nat) (s : ByteArray) (bad : Bool) (w : World) (h : QAt c s bad w) :
    Calls Try.prog 19 #[.pointer (some ⟨c, 0, none⟩)] w fun e w' => e = .returned (.bool (!bad)) ∧ w = w' := by
  obtain ⟨h1, h2, h3, h4⟩ := h.cells
  clear h
  go_enter Try.func19, Try.ntmps19
  go_wp2
  go_ret
  exact ⟨rfl, rfl⟩

theorem q_end (c : Nat) (s : ByteArray) (bad : Bool) (w : World) (h : QAt c s bad w) :
    Calls Try.prog 21 #[.pointer (some ⟨c, 0, none⟩)] w fun e w' => e = .returned (.bool (!bad && (bl s).isEmpty)) ∧ w = w' := by
  obtain ⟨h1, h2, h3, h4⟩ := h.cells
  clear h
  cases bad with
  | true =>
    go_enter Try.func21, Try.ntmps21
    go_wp2
    go_ret
    exact ⟨rfl, rfl⟩
  | false =>
    go_enter Try.func21, Try.ntmps21
    go_wp2
    go_ret
    exact ⟨by rw [Lib.toList_data]; rfl, rfl⟩

end Go.Proofs.Ytijjpnpjdnddoaa
