/- What reading a number whose count is 0, and any number, off the document's own reader does; and a text. -/
import Derived.Test.YtijjpnpjdnddoaaRefG
namespace Go.Proofs.Ytijjpnpjdnddoaa
open Go.RowKit

def okQZero (c : Nat) (s : ByteArray) (w : World) (e : Ending) (w' : World) : Prop :=
  w.grownBy w' (some c) ∧ e = .returned (.int .u64 0) ∧ QAt c (s.extract 1 s.size) false w'

set_option maxHeartbeats 1600000 in
theorem q_good0 (c : Nat) (s : ByteArray) (w : World) (h : QAt c s false w) (hp : 0 < s.size) (hk0 : s[0].toNat = 0) :
    Calls Try.prog 15 #[.pointer (some ⟨c, 0, none⟩)] w (okQZero c s w) := by
  obtain ⟨h1, h2, h3, h4⟩ := h.cells
  have hpi : (0 : Int) < (s.size : Int) := by omega
  have e1 := Lib.hid (show ((s.size : Int) == 0) = false by rw [beq_eq_false_iff_ne]; omega)
  have e3 := Lib.hid (show decide ((s.size : Int) < (1 : Int)) = false by rw [decide_eq_false_iff_not]; omega)
  go_enter Try.func15, Try.ntmps15
  go_wp2
  have f1 := e1.out
  have f3 := e3.out
  go_quiet (fail)
  obtain ⟨W, hW⟩ : ∃ W, W = w.drewN nq := ⟨_, rfl⟩
  have hq : QAt c s false W := by rw [hW]; exact h
  have hgW := Lib.hid (show w.grownBy W (some c) from by rw [hW]; exact grown_drewN (grown_refl w _) nq)
  rw [← hW]
  clear hW h h1 h2 h3 h4
  obtain ⟨h1, h2, h3, h4⟩ := hq.cells
  have hx : (s.extract 1 s.size).size ≤ 1000000 := by have := hq.2; simp; omega
  have HQ := Lib.hid (hq.set0 _ hx)
  have HG := Lib.hid (grown_set c 0 W (.string (s.extract 1 s.size)))
  have hs1 : s.size ≤ 1000000 := hq.2
  have hs2 : 1 ≤ s.size := hp
  clear hq
  go_wp2
  go_loop [3, 5] (fun n i => n = .int .u64 0 ∧ i = .int .i64 1) (fun _ i => 1 - (intOf i).toNat)
  case atStart => exact ⟨rfl, rfl⟩
  case round =>
    obtain ⟨rfl, rfl⟩ := hrel
    go_wp2
    go_ret
    exact ⟨grown_trans hgW.out HG.out, rfl, HQ.out⟩

theorem rdNum_cons (k : UInt8) (r : List UInt8) : rdNum (k :: r) =
    if 8 < k.toNat then none else if r.length < k.toNat then none else if (r.take k.toNat).head? = some 0 then none else some (val (r.take k.toNat), r.drop k.toNat) := rfl

theorem restB_drop (s : ByteArray) (k : Nat) : (bl s).drop (1 + k) = (restB s).drop k := by
  unfold restB; rw [List.drop_drop]

theorem q_num (c : Nat) (s : ByteArray) (w : World) (h : QAt c s false w) :
    Calls Try.prog 15 #[.pointer (some ⟨c, 0, none⟩)] w (okQNum c s w) := by
  have hno : ∀ e w', rdNum (bl s) = none → okQNo c w e w' → okQNum c s w e w' := fun e w' hn ⟨h1, h2, h3⟩ => ⟨h1, .inr ⟨hn, h2, h3⟩⟩
  by_cases hp : 0 < s.size
  · have hc := bl_cons s hp
    have hrl : (restB s).length = s.size - 1 := restB_len s
    have hyes : ∀ e w', ¬ 8 < s[0].toNat → ¬ (restB s).length < s[0].toNat → ¬ ((restB s).take s[0].toNat).head? = some 0 → okQYes c s s[0].toNat w e w' → okQNum c s w e w' := fun e w' g1 g2 g3 ⟨h1, h2, h3⟩ =>
      ⟨h1, .inl ⟨_, (restB s).drop s[0].toNat, _, by rw [hc]; show rdNum (s[0] :: restB s) = _; rw [rdNum_cons, if_neg g1, if_neg g2, if_neg g3], h2, by rw [bl_extract, restB_drop], h3⟩⟩
    by_cases hk : s[0].toNat ≤ 8
    · by_cases hl : 1 + s[0].toNat ≤ s.size
      · by_cases hk0 : s[0].toNat = 0
        · refine (q_good0 c s w h hp hk0).mono fun e w' ⟨h1, h2, h3⟩ => hyes e w' (by omega) (by omega) (by rw [hk0]; simp) ⟨h1, by rw [h2, hk0]; rfl, by rw [hk0]; exact h3⟩
        · have hp1 : 1 < s.size := by omega
          have hhead : ((restB s).take s[0].toNat).head? = some s[1] := by
            have := restB_get s 0 hp1
            cases hr : restB s with
            | nil => rw [hr] at hrl; simp at hrl; omega
            | cons y q =>
              obtain ⟨k, hk1⟩ : ∃ k, s[0].toNat = k + 1 := ⟨s[0].toNat - 1, by omega⟩
              simp only [hr, List.getElem_cons_zero, Nat.zero_add] at this
              rw [hk1, List.take_succ_cons, List.head?_cons, this]
          by_cases h0 : s[1].toNat = 0
          · refine (q_zero c s w h hp1 hk hl (by omega) h0).mono fun e w' => hno e w' ?_
            rw [hc]
            show rdNum (s[0] :: restB s) = none
            have hz : s[1] = 0 := by apply UInt8.toNat_inj.1; simpa using h0
            rw [rdNum_cons, if_neg (by omega), if_neg (by omega), if_pos (by rw [hhead, hz])]
          · refine (q_good c s w h hp1 hk hl (by omega) h0).mono fun e w' => hyes e w' (by omega) (by omega) ?_
            rw [hhead]
            intro hz
            simp only [Option.some.injEq] at hz
            exact h0 (by rw [hz]; rfl)
      · refine (q_short c s w h hp hk (by omega)).mono fun e w' => hno e w' ?_
        rw [hc]
        show rdNum (s[0] :: restB s) = none
        rw [rdNum_cons, if_neg (by omega), if_pos (by omega)]
    · refine (q_big c s w h hp (by omega)).mono fun e w' => hno e w' ?_
      rw [hc]
      show rdNum (s[0] :: restB s) = none
      rw [rdNum_cons, if_pos (by omega)]
  · refine (q_empty c s w h (by omega)).mono fun e w' => hno e w' ?_
    have : bl s = [] := List.length_eq_zero_iff.1 (by rw [bl_len]; omega)
    rw [this]
    rfl

end Go.Proofs.Ytijjpnpjdnddoaa
