/- The small sample that each law asks first: a number and a text, there and back. -/
import Derived.Test.YtijjpnpjdnddoaaText
namespace Go.Proofs.Ytijjpnpjdnddoaa
open Go.RowKit

def okTrue (w : World) (e : Ending) (w' : World) : Prop := e = .returned (.bool true) ∧ Below w.heap.size w w'

theorem put300 (w : World) : Calls Try.prog 8 #[.string ⟨#[]⟩, .int .u64 300] w fun e w' => e = .returned (.string ⟨#[2, 1, 44]⟩) ∧ Below w.heap.size w w' :=
  (putNum_any ⟨#[]⟩ 300 w (by decide) (by decide) (by decide)).mono fun e w' ⟨he, hb⟩ => ⟨by rw [he]; congr 2, hb⟩

theorem putab (w : World) : Calls Try.prog 10 #[.string ⟨#[2, 1, 44]⟩, .string ⟨#[97, 98]⟩] w fun e w' => e = .returned (.string ⟨#[2, 1, 44, 1, 2, 97, 98]⟩) ∧ Below w.heap.size w w' :=
  (putText_any ⟨#[2, 1, 44]⟩ ⟨#[97, 98]⟩ w (by decide) (by decide)).mono fun e w' ⟨he, hb⟩ => ⟨by rw [he]; congr 2, hb⟩

theorem grown_below {w w1 w2 : World} {b : Nat} (h : Below w.heap.size w w1) (hb : w.heap.size ≤ b) (hg : w1.grownBy w2 (some b)) : Below w.heap.size w w2 :=
  h.grown hg h.size (fun j hj => by cases hj; exact hb)

theorem num_is (b : Nat) (l : List UInt8) (n : Nat) (r : List UInt8) (w : World) (h : RdAt b l false w) (hr : rdNum l = some (n, r)) :
    Calls Try.prog 14 #[.pointer (some ⟨b, 0, none⟩)] w fun e w' => e = .returned (.int .u64 (n : Int)) ∧ RdAt b r false w' ∧ w.grownBy w' (some b) := by
  refine (num_good1 b l w h).mono fun e w' hh => ?_
  obtain ⟨hg, ⟨n', r', hn, rfl, hr'⟩ | ⟨hn, _⟩⟩ := hh
  · rw [hr] at hn
    simp only [Option.some.injEq, Prod.mk.injEq] at hn
    obtain ⟨rfl, rfl⟩ := hn
    exact ⟨rfl, hr', hg⟩
  · rw [hr] at hn; cases hn

theorem num_none (b : Nat) (l : List UInt8) (w : World) (h : RdAt b l false w) (hr : rdNum l = none) :
    Calls Try.prog 14 #[.pointer (some ⟨b, 0, none⟩)] w fun e w' => e = .returned (.int .u64 0) ∧ (∃ m, RdAt b m true w') ∧ w.grownBy w' (some b) := by
  refine (num_good1 b l w h).mono fun e w' hh => ?_
  obtain ⟨hg, ⟨n', r', hn, _⟩ | ⟨_, he, hm⟩⟩ := hh
  · rw [hr] at hn; cases hn
  · exact ⟨he, hm, hg⟩

theorem text_is (b : Nat) (l : List UInt8) (t : List UInt8) (r : List UInt8) (w : World) (h : RdAt b l false w) (hr : rdText l = some (t, r)) :
    Calls Try.prog 16 #[.pointer (some ⟨b, 0, none⟩)] w fun e w' => e = .returned (.string (str t)) ∧ RdAt b r false w' ∧ w.grownBy w' (some b) := by
  refine (text_good1 b l w h).mono fun e w' hh => ?_
  obtain ⟨hg, ⟨n', r', hn, rfl, hr'⟩ | ⟨hn, _⟩⟩ := hh
  · rw [hr] at hn
    simp only [Option.some.injEq, Prod.mk.injEq] at hn
    obtain ⟨rfl, rfl⟩ := hn
    exact ⟨rfl, hr', hg⟩
  · rw [hr] at hn; cases hn

theorem text_none (b : Nat) (l : List UInt8) (w : World) (h : RdAt b l false w) (hr : rdText l = none) :
    Calls Try.prog 16 #[.pointer (some ⟨b, 0, none⟩)] w fun e w' => e = .returned (.string (str [])) ∧ (∃ m, RdAt b m true w') ∧ w.grownBy w' (some b) := by
  refine (text_good1 b l w h).mono fun e w' hh => ?_
  obtain ⟨hg, ⟨n', r', hn, _⟩ | ⟨_, he, hm⟩⟩ := hh
  · rw [hr] at hn; cases hn
  · exact ⟨he, hm, hg⟩

set_option maxHeartbeats 400000 in
theorem works_any (w : World) : Calls Try.prog 12 #[] w (okTrue w) := by
  go_enter Try.func12, Try.ntmps12
  go_wp2_with (go_at_call 8; refine (put300 _).mono ?_)
  rintro e w1 ⟨rfl, b1⟩
  go_wp2_with (go_at_call 10; refine (putab _).mono ?_)
  rintro e w2 ⟨rfl, b2⟩
  have b12 := below_step b1 b2
  clear b1 b2
  go_wp2_with (go_at_call 13; refine (new_any ⟨#[2, 1, 44, 1, 2, 97, 98]⟩ _ (by decide)).mono ?_)
  rintro e w3 ⟨b, rfl, hbs, hr, b3⟩
  have b13 := below_step b12 b3
  have hbw : w.heap.size ≤ b := Nat.le_trans b12.size hbs
  clear b12 b3 hbs
  go_wp2_with (go_at_call 14; refine (num_is b _ 300 [1, 2, 97, 98] _ hr (by decide +kernel)).mono ?_)
  rintro e w4 ⟨rfl, hr4, g4⟩
  have b14 := grown_below b13 hbw g4
  clear b13 g4 hr
  go_wp2_with (go_at_call 16; refine (text_is b _ [97, 98] [] _ hr4 (by decide +kernel)).mono ?_)
  rintro e w5 ⟨rfl, hr5, g5⟩
  have b15 := grown_below b14 hbw g5
  clear b14 g5 hr4
  rw [show str [97, 98] = ⟨#[97, 98]⟩ from rfl]
  go_wp2_with (go_at_call 20; refine (end_good b [] _ hr5).mono ?_; rintro e w' ⟨rfl, rfl⟩)
  go_ret
  exact ⟨rfl, b15⟩

end Go.Proofs.Ytijjpnpjdnddoaa
