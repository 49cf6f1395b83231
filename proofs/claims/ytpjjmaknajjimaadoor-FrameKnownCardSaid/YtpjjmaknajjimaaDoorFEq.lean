/- What slices.Equal and the document's own Texts do. -/
import Derived.Test.YtpjjmaknajjimaaDoorFMem
import Derived.BigQuiet
namespace Go.Proofs.YtpjjmaknajjimaaDoor
open Go.RowKit

def okBool (b : Bool) (w : World) (e : Ending) (w' : World) : Prop := e = .returned (.bool b) ∧ Below w.heap.size w w'

def FEqRel (ps qs : List (List UInt8)) (w : World) (i : Value) (wr : World) : Prop :=
  ∃ k : Nat, k ≤ ps.length ∧ i = .int .i64 (k : Int) ∧ ps.take k = qs.take k ∧ Below w.heap.size w wr

theorem take_snoc_eq (ps qs : List (List UInt8)) (k : Nat) (h1 : k < ps.length) (h2 : k < qs.length) (h : ps.take k = qs.take k) (e : ps[k] = qs[k]) : ps.take (k + 1) = qs.take (k + 1) := by
  rw [List.take_succ_eq_append_getElem h1, List.take_succ_eq_append_getElem h2, h, e]

set_option maxHeartbeats 800000 in
theorem equal_any (a b : Option Addr) (c d : Nat) (ps qs : List (List UInt8)) (w : World) (hp : StrsAt w a ps) (hq : StrsAt w b qs) (hl : ps.length ≤ 4611686018427387904) (hm : qs.length ≤ 4611686018427387904) :
    Calls Tryd.prog 22 #[.slice a ps.length c, .slice b qs.length d] w (okBool (decide (ps = qs)) w) := by
  have HP := Lib.hid hp
  have HQ := Lib.hid hq
  clear hp hq
  by_cases hlen : ps.length = qs.length
  · go_enter Tryd.func22, Tryd.ntmps22
    go_wp2
    go_loopw [13] (fun i wr => FEqRel ps qs w i wr) (fun i _ => ps.length - (intOf i).toNat)
    case atStart => exact ⟨0, Nat.zero_le _, rfl, rfl, Below.refl _ _⟩
    case round =>
      obtain ⟨k, hk, rfl, ht, hB⟩ := hrel
      have Ht := Lib.hid ht
      clear ht
      by_cases hlt : k < ps.length
      · have hlq : k < qs.length := by omega
        obtain ⟨b1, o1, rfl, hb1, hc1⟩ := HP.out k hlt
        obtain ⟨b2, o2, rfl, hb2, hc2⟩ := HQ.out k hlq
        have hcell1 : wr.cell? ⟨b1, o1 + k, none⟩ = some (.string (str ps[k])) := by rw [hB.cell (p := ⟨b1, o1 + k, none⟩) hb1]; exact hc1
        have hcell2 : wr.cell? ⟨b2, o2 + k, none⟩ = some (.string (str qs[k])) := by rw [hB.cell (p := ⟨b2, o2 + k, none⟩) hb2]; exact hc2
        have hbw1 : b1 < wr.heap.size := Nat.lt_of_lt_of_le hb1 hB.size
        have hbw2 : b2 < wr.heap.size := Nat.lt_of_lt_of_le hb2 hB.size
        have hi1 : (k : Int) < (ps.length : Int) := by omega
        have hi2 : (k : Int) < (qs.length : Int) := by omega
        have hbq : ((str ps[k]).toList == (str qs[k]).toList) = decide (ps[k] = qs[k]) := by rw [beq_bl, bl_str]
        have Hbq := Lib.hid hbq
        clear hc1 hc2 hbq
        generalize str ps[k] = x at *
        generalize str qs[k] = y at *
        go_wp2
        go_quiet (fail)
        have hbq := Hbq.out
        generalize (x.toList == y.toList) = q at *
        have hB2 := below_drewN hB nq
        by_cases he : ps[k] = qs[k]
        · have hqt : q = true := by rw [hbq]; simpa using he
          have hsn := Lib.hid (take_snoc_eq ps qs k hlt hlq Ht.out he)
          clear hbq he
          subst hqt
          go_wp2
          go_roundw
          case rel => exact ⟨k + 1, by omega, by go_num, hsn.out, hB2⟩
          case measure => simp [intOf]; omega
        · have hqt : q = false := by rw [hbq]; simpa using he
          have hne : decide (ps = qs) = false := by
            simp only [decide_eq_false_iff_not]
            rintro rfl
            exact he rfl
          have Hne := Lib.hid hne
          clear hbq he hne
          subst hqt
          go_wp2
          go_ret
          exact ⟨by rw [Hne.out]; rfl, hB2⟩
      · have hk' : k = ps.length := by omega
        have heq : decide (ps = qs) = true := by
          have := Ht.out
          rw [List.take_of_length_le (by omega), List.take_of_length_le (by omega)] at this
          simpa using this
        have Heq := Lib.hid heq
        clear heq
        go_wp2
        go_ret
        exact ⟨by rw [Heq.out]; rfl, hB⟩
  · have hne : decide (ps = qs) = false := by
      simp only [decide_eq_false_iff_not]
      rintro rfl
      exact hlen rfl
    have hli : ¬ (ps.length : Int) = (qs.length : Int) := by omega
    have Hne := Lib.hid hne
    clear hne
    go_enter Tryd.func22, Tryd.ntmps22
    go_wp2
    go_ret
    exact ⟨by rw [Hne.out]; rfl, Below.refl _ _⟩

end Go.Proofs.YtpjjmaknajjimaaDoor
