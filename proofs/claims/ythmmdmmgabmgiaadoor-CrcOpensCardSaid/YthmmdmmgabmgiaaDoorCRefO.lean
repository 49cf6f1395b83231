/- What the document's own Open does. -/
import Derived.Test.YthmmdmmgabmgiaaDoorCRef
import Derived.Test.YthmmdmmgabmgiaaDoorCOpen
namespace Go.Proofs.YthmmdmmgabmgiaaDoor
open Go.RowKit Go.Sort

set_option maxHeartbeats 400000 in
theorem ropen_short (s : ByteArray) (w : World) (hs : s.size < 4) : Calls Tryd.prog 15 #[.string s] w (OpenIs (bl s) w) := by
  have ho : openB (bl s) = none := by unfold openB; rw [if_pos (by rw [bl_len]; exact hs)]
  have Ho := Lib.hid ho
  clear ho
  go_enter Tryd.func15, Tryd.ntmps15
  go_wp2
  go_ret2
  refine ⟨?_, Below.refl _ _⟩
  rw [Ho.out]
  rfl

set_option maxHeartbeats 400000 in
theorem ropen_4 (s : ByteArray) (w : World) (hs : 4 ≤ s.size) (hr : s.size ≤ 140737488355328) : Calls Tryd.prog 15 #[.string s] w (OpenIs (bl s) w) := by
  have hz : (s.extract 0 (s.size - 4)).size ≤ s.size := by simp
  have cS : ∀ d os, Calls Tryd.prog 10 #[.string (s.extract 0 (s.size - 4))] (grow (redrawn w d) os) fun e w'' => e = .returned (.int .u32 (crcSum (bl (s.extract 0 (s.size - 4))) : Int)) ∧ ∃ p : Regrown, w'' = grow (redrawn w p.d) p.os :=
    fun d os => (rsum_any _ _ (by omega)).mono fun _ _ ⟨he, hw⟩ => ⟨he, ⟨d, os⟩, hw.symm⟩
  have cB : ∀ d os, Calls Tryd.prog 18 #[.int .u32 (crcSum (bl (s.extract 0 (s.size - 4))) : Int)] (grow (redrawn w d) os) fun e w'' => e = .returned (.string (str (tailB (bl (s.extract 0 (s.size - 4)))))) ∧ ∃ p : Regrown, w'' = grow (redrawn w p.d) p.os :=
    fun d os => Calls.regrown_of (rbytes_any _ _ (crcSum_lt _))
  have hn := crcSum_lt (bl (s.extract 0 (s.size - 4)))
  clear hz
  go_enter Tryd.func15, Tryd.ntmps15
  go_wp2
  refine wp_region_quiet_below cmixed (by kernel_rfl) ?_
  repeat (any_goals (first | go_big_quiet_step (first | exact cS _ _ | exact cB _ _) | quiet_step (first | exact cS _ _ | exact cB _ _)))
  refine wpQuiet_nil ?_
  intro _ hw'
  obtain ⟨⟨dq, osq⟩, hw''⟩ := hw'
  subst hw''
  clear cS cB
  cases hx : openB (bl s) with
  | none =>
    have hq : ((s.extract (s.size - 4) s.size).toList == (str (tailB (bl (s.extract 0 (s.size - 4))))).toList) = false := by
      rw [beq_bl, bl_from, bl_upto]
      simp only [openB, bl_len] at hx
      rw [if_neg (by omega)] at hx
      split at hx
      · cases hx
      · rename_i h; simpa using h
    have Hx := Lib.hid hx
    clear hx
    generalize ((s.extract (s.size - 4) s.size).toList == (str (tailB (bl (s.extract 0 (s.size - 4))))).toList) = q at *
    subst hq
    go_wp2
    go_ret2
    refine ⟨?_, below_regrown w dq osq⟩
    rw [Hx.out]
    rfl
  | some m =>
    have hq : ((s.extract (s.size - 4) s.size).toList == (str (tailB (bl (s.extract 0 (s.size - 4))))).toList) = true ∧ s.extract 0 (s.size - 4) = str m := by
      rw [beq_bl, bl_from, bl_upto]
      simp only [openB, bl_len] at hx
      rw [if_neg (by omega)] at hx
      split at hx
      · rename_i h
        refine ⟨by simpa using h, ?_⟩
        simp only [Option.some.injEq] at hx
        rw [← hx, ← bl_upto, str_bl]
      · cases hx
    obtain ⟨hq, hm⟩ := hq
    have Hx := Lib.hid hx
    have Hm := Lib.hid hm
    clear hx hm
    generalize ((s.extract (s.size - 4) s.size).toList == (str (tailB (bl (s.extract 0 (s.size - 4))))).toList) = q at *
    subst hq
    go_wp2
    go_ret2
    refine ⟨?_, below_regrown w dq osq⟩
    rw [Hx.out]
    simp [Hm.out]

theorem ropen_any (s : ByteArray) (w : World) (hr : s.size ≤ 140737488355328) : Calls Tryd.prog 15 #[.string s] w (OpenIs (bl s) w) := by
  by_cases h : s.size < 4
  · exact ropen_short s w h
  · exact ropen_4 s w (by omega) hr

end Go.Proofs.YthmmdmmgabmgiaaDoor
