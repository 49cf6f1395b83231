/- What Open of package crc does. -/
import Derived.Test.YthmmdmmgabmgiaaDoorCSeal
import Derived.Lib.QuietBelow
import Derived.BigQuiet
namespace Go.Proofs.YthmmdmmgabmgiaaDoor
open Go.RowKit Go.Sort

theorem cmixed : Tryd.prog.follows .mixedOrders = true := by kernel_rfl

theorem clone_any (s : ByteArray) (w : World) (hs : s.size ≤ 281474976710656) : Calls Tryd.prog 19 #[.string s] w (okStr s w) := by
  go_enter Tryd.func19, Tryd.ntmps19
  go_wp2_with (go_at_call 20; refine (Tryd.stringslite_Clone s _ hs).mono ?_)
  rintro e W1 ⟨rfl, b1⟩
  go_wp2
  go_ret
  exact ⟨rfl, b1⟩

/-- What Open answers. -/
def OpenIs (l : List UInt8) (w : World) (e : Ending) (w' : World) : Prop :=
  (match openB l with
    | some m => e = .returned (.tuple #[.string (str m), .bool true])
    | none => e = .returned (.tuple #[.string ⟨#[]⟩, .bool false])) ∧ Below w.heap.size w w'

set_option maxHeartbeats 400000 in
theorem open_short (s : ByteArray) (w : World) (hs : s.size < 4) : Calls Tryd.prog 14 #[.string s] w (OpenIs (bl s) w) := by
  have ho : openB (bl s) = none := by unfold openB; rw [if_pos (by rw [bl_len]; exact hs)]
  have Ho := Lib.hid ho
  clear ho
  have hd : decide ((s.size : Int) - 4 < 0) = true := by simp; omega
  go_enter Tryd.func14, Tryd.ntmps14
  go_wp2
  refine wp_region_quiet_below cmixed (by kernel_rfl) ?_
  repeat (any_goals (first | go_big_quiet_step (fail) | quiet_step (fail)))
  refine wpQuiet_nil ?_
  intro _ hw'
  obtain ⟨⟨dq, osq⟩, hw''⟩ := hw'
  subst hw''
  go_wp2
  go_ret2
  refine ⟨?_, below_regrown w dq osq⟩
  rw [Ho.out]
  rfl

set_option maxHeartbeats 400000 in
theorem open_4 (s : ByteArray) (w : World) (hs : 4 ≤ s.size) (hr : s.size ≤ 140737488355328) (ht : CTab w) : Calls Tryd.prog 14 #[.string s] w (OpenIs (bl s) w) := by
  have hd : decide ((s.size : Int) - 4 < 0) = false := by simp; omega
  have HT := Lib.hid ht
  have hz : (s.extract 0 (s.size - 4)).size ≤ s.size := by simp
  have cT : ∀ d os, Calls Tryd.prog 17 #[.string (s.extract 0 (s.size - 4))] (grow (redrawn w d) os) fun e w'' => e = .returned (.string (str (tailB (bl (s.extract 0 (s.size - 4)))))) ∧ ∃ p : Regrown, w'' = grow (redrawn w p.d) p.os :=
    fun d os => Calls.regrown_of (ctail_any _ _ (by omega) (HT.out.below (below_regrown w d os) HT.out.1))
  clear ht hz
  go_enter Tryd.func14, Tryd.ntmps14
  go_wp2
  refine wp_region_quiet_below cmixed (by kernel_rfl) ?_
  repeat (any_goals (first | go_big_quiet_step (exact cT _ _) | quiet_step (exact cT _ _)))
  refine wpQuiet_nil ?_
  intro _ hw'
  obtain ⟨⟨dq, osq⟩, hw''⟩ := hw'
  subst hw''
  cases hx : openB (bl s) with
  | none =>
    have hq : ((s.extract (s.size - 4) s.size).toList == (str (tailB (bl (s.extract 0 (s.size - 4))))).toList) = false := by
      rw [beq_bl, bl_from, bl_upto]
      simp only [openB, bl_len] at hx
      rw [if_neg (by omega)] at hx
      split at hx
      · cases hx
      · rename_i h; simpa using h
    have Hx := Lib.hid hx
    clear hx
    generalize ((s.extract (s.size - 4) s.size).toList == (str (tailB (bl (s.extract 0 (s.size - 4))))).toList) = q at *
    subst hq
    go_wp2
    go_ret2
    refine ⟨?_, below_regrown w dq osq⟩
    rw [Hx.out]
    rfl
  | some m =>
    have hq : ((s.extract (s.size - 4) s.size).toList == (str (tailB (bl (s.extract 0 (s.size - 4))))).toList) = true ∧ s.extract 0 (s.size - 4) = str m := by
      rw [beq_bl, bl_from, bl_upto]
      simp only [openB, bl_len] at hx
      rw [if_neg (by omega)] at hx
      split at hx
      · rename_i h
        refine ⟨by simpa using h, ?_⟩
        simp only [Option.some.injEq] at hx
        rw [← hx, ← bl_upto, str_bl]
      · cases hx
    obtain ⟨hq, hm⟩ := hq
    have Hx := Lib.hid hx
    have Hm := Lib.hid hm
    have hz : (s.extract 0 (s.size - 4)).size ≤ s.size := by simp
    clear hx hm
    generalize ((s.extract (s.size - 4) s.size).toList == (str (tailB (bl (s.extract 0 (s.size - 4))))).toList) = q at *
    subst hq
    go_wp2_with (go_at_call 19; refine (clone_any _ _ (by omega)).mono ?_)
    rintro e W2 ⟨rfl, b2⟩
    have b' := below_step (below_regrown w dq osq) b2
    clear b2
    go_wp2
    go_ret2
    refine ⟨?_, b'⟩
    rw [Hx.out]
    simp [Hm.out]

theorem copen_any (s : ByteArray) (w : World) (hr : s.size ≤ 140737488355328) (ht : CTab w) : Calls Tryd.prog 14 #[.string s] w (OpenIs (bl s) w) := by
  by_cases h : s.size < 4
  · exact open_short s w h
  · exact open_4 s w (by omega) hr ht

theorem copen_some (s : ByteArray) (m : List UInt8) (w : World) (hr : s.size ≤ 140737488355328) (ht : CTab w) (h : openB (bl s) = some m) :
    Calls Tryd.prog 14 #[.string s] w fun e w' => e = .returned (.tuple #[.string (str m), .bool true]) ∧ Below w.heap.size w w' :=
  (copen_any s w hr ht).mono fun e w' hh => by unfold OpenIs at hh; rw [h] at hh; exact hh

theorem copen_none (s : ByteArray) (w : World) (hr : s.size ≤ 140737488355328) (ht : CTab w) (h : openB (bl s) = none) :
    Calls Tryd.prog 14 #[.string s] w fun e w' => e = .returned (.tuple #[.string ⟨#[]⟩, .bool false]) ∧ Below w.heap.size w w' :=
  (copen_any s w hr ht).mono fun e w' hh => by unfold OpenIs at hh; rw [h] at hh; exact hh

end Go.Proofs.YthmmdmmgabmgiaaDoor
