/- The statements' and the document's own small functions. -/
import Derived.Test.YtadobhfmhcaofaaImPure
import Derived.Test.YtadobhfmhcaofaaICells
import Derived.Deep.QuietTactic
import Derived.BigQuiet
import Derived.LoopTactic
import Derived.Laws.AppendOwn
import Derived.Laws.AppendOwnNone
namespace Go.Proofs.Ytadobhfmhcaofaa.im
open Go Go.RowKit Go.Proofs.Ytadobhfmhcaofaa.ib
set_option maxRecDepth 100000

/-! ### Are two lists alike -/
def AlikeRel (ps qs : List Int) (w : World) (i : Value) (wr : World) : Prop := ∃ k : Nat, k ≤ ps.length ∧ i = .int .i64 (k : Int) ∧ ps.take k = qs.take k ∧ Below w.heap.size w wr
theorem drewA {w wr : World} (h : Below w.heap.size w wr) (n : Nat) : Below w.heap.size w (wr.drewN n) := ⟨h.os, h.tape, h.output, h.size, h.block⟩

set_option maxHeartbeats 1600000 in
theorem rints_any (A A' : Option Addr) (c c' : Nat) (ps qs : List Int) (w : World) (hp : IntsAt w A ps) (hq : IntsAt w A' qs) (hl : ps.length ≤ 9223372036854775807) :
    Calls Try.prog 13 #[.slice A ps.length c, .slice A' qs.length c'] w (endB (decide (ps = qs)) w) := by
  have HP := Lib.hid hp
  have HQ := Lib.hid hq
  clear hp hq
  by_cases hne : ps.length = qs.length
  · have HNE := Lib.hid hne
    have hlb : ((ps.length : Int) != (qs.length : Int)) = false := by rw [hne]; simp
    clear hne
    go_enter Try.func13, Try.ntmps13
    go_wp2_with fail
    go_loopw [5] (fun i wr => AlikeRel ps qs w i wr) (fun i _ => ps.length - (intOf i).toNat)
    case atStart => exact ⟨0, Nat.zero_le _, rfl, by simp, Below.refl _ _⟩
    case round =>
      obtain ⟨k, hk, rfl, he, hb⟩ := hrel
      have HE := Lib.hid he
      have HB := Lib.hid hb
      clear he hb
      by_cases hlt : k < ps.length
      · obtain ⟨b, o, rfl, hbl, hc, hz⟩ := HP.out k hlt
        have hlq : k < qs.length := by have := HNE.out; omega
        obtain ⟨b', o', rfl, hbl', hc', hz'⟩ := HQ.out k hlq
        have h1 : ps.take (k + 1) = ps.take k ++ [ps[k]] := List.take_succ_eq_append_getElem hlt
        have h2 : qs.take (k + 1) = qs.take k ++ [qs[k]] := List.take_succ_eq_append_getElem hlq
        have hps : ps = qs → ps[k] = qs[k] := fun h => by subst h; rfl
        have HPS := Lib.hid hps
        have H1 := Lib.hid h1
        have H2 := Lib.hid h2
        have e0 : wr.cell? ⟨b, o + k, none⟩ = some (.int .i64 ps[k]) := by rw [HB.out.cell (p := ⟨b, o + k, none⟩) hbl]; exact hc
        have e1 : wr.cell? ⟨b', o' + k, none⟩ = some (.int .i64 qs[k]) := by rw [HB.out.cell (p := ⟨b', o' + k, none⟩) hbl']; exact hc'
        have l0 : b < wr.heap.size := Nat.lt_of_lt_of_le hbl HB.out.size
        have l1 : b' < wr.heap.size := Nat.lt_of_lt_of_le hbl' HB.out.size
        have hklt : (k : Int) < (ps.length : Int) := by omega
        have hklq : (k : Int) < (qs.length : Int) := by omega
        clear hc hc' h1 h2 hps hz hz'
        generalize ps[k] = x at *
        generalize qs[k] = y at *
        by_cases hxy : x = y
        · subst hxy
          have hq : (x != x) = false := by simp
          go_wp2_with fail
          go_quiet (fail)
          go_wp2_with fail
          go_roundw
          case rel => exact ⟨k + 1, by omega, by go_num, by rw [H1.out, H2.out, HE.out], by first | exact drewA HB.out _ | exact HB.out⟩
          case measure => simp [intOf]; omega
        · have hq : (x != y) = true := by simpa using hxy
          have hd : decide (ps = qs) = false := decide_eq_false fun h => hxy (HPS.out h)
          have HD := Lib.hid hd
          clear hd
          go_wp2_with fail
          go_quiet (fail)
          go_wp2_with fail
          go_ret
          rw [HD.out]
          exact ⟨rfl, by first | exact drewA HB.out _ | exact HB.out⟩
      · have hke : k = ps.length := by omega
        have hd : decide (ps = qs) = true := by
          apply decide_eq_true
          have := HE.out
          rw [hke, List.take_length, HNE.out, List.take_length] at this
          exact this
        have HD := Lib.hid hd
        have hkl : ¬ (k : Int) < (ps.length : Int) := by omega
        clear hd hke
        go_wp2_with fail
        go_ret
        rw [HD.out]
        exact ⟨rfl, HB.out⟩
  · have hlb : ((ps.length : Int) != (qs.length : Int)) = true := by simp; omega
    have hd : decide (ps = qs) = false := decide_eq_false fun h => hne (by rw [h])
    have HD := Lib.hid hd
    clear hd hne
    go_enter Try.func13, Try.ntmps13
    go_wp2_with fail
    go_ret
    rw [HD.out]
    exact ⟨rfl, Below.refl _ _⟩

set_option maxHeartbeats 1600000 in
theorem is_any (A A' : Option Addr) (c c' : Nat) (ps qs : List Int) (w : World) (hp : IntsAt w A ps) (hq : IntsAt w A' qs) (hl : ps.length ≤ 9223372036854775807) :
    Calls Try.prog 18 #[.slice A ps.length c, .slice A' qs.length c'] w (endB (decide (ps = qs)) w) := by
  have HP := Lib.hid hp
  have HQ := Lib.hid hq
  clear hp hq
  by_cases hne : ps.length = qs.length
  · have HNE := Lib.hid hne
    have hlb : ((ps.length : Int) != (qs.length : Int)) = false := by rw [hne]; simp
    clear hne
    go_enter Try.func18, Try.ntmps18
    go_wp2_with fail
    go_loopw [5] (fun i wr => AlikeRel ps qs w i wr) (fun i _ => ps.length - (intOf i).toNat)
    case atStart => exact ⟨0, Nat.zero_le _, rfl, by simp, Below.refl _ _⟩
    case round =>
      obtain ⟨k, hk, rfl, he, hb⟩ := hrel
      have HE := Lib.hid he
      have HB := Lib.hid hb
      clear he hb
      by_cases hlt : k < ps.length
      · obtain ⟨b, o, rfl, hbl, hc, hz⟩ := HP.out k hlt
        have hlq : k < qs.length := by have := HNE.out; omega
        obtain ⟨b', o', rfl, hbl', hc', hz'⟩ := HQ.out k hlq
        have h1 : ps.take (k + 1) = ps.take k ++ [ps[k]] := List.take_succ_eq_append_getElem hlt
        have h2 : qs.take (k + 1) = qs.take k ++ [qs[k]] := List.take_succ_eq_append_getElem hlq
        have hps : ps = qs → ps[k] = qs[k] := fun h => by subst h; rfl
        have HPS := Lib.hid hps
        have H1 := Lib.hid h1
        have H2 := Lib.hid h2
        have e0 : wr.cell? ⟨b, o + k, none⟩ = some (.int .i64 ps[k]) := by rw [HB.out.cell (p := ⟨b, o + k, none⟩) hbl]; exact hc
        have e1 : wr.cell? ⟨b', o' + k, none⟩ = some (.int .i64 qs[k]) := by rw [HB.out.cell (p := ⟨b', o' + k, none⟩) hbl']; exact hc'
        have l0 : b < wr.heap.size := Nat.lt_of_lt_of_le hbl HB.out.size
        have l1 : b' < wr.heap.size := Nat.lt_of_lt_of_le hbl' HB.out.size
        have hklt : (k : Int) < (ps.length : Int) := by omega
        have hklq : (k : Int) < (qs.length : Int) := by omega
        clear hc hc' h1 h2 hps hz hz'
        generalize ps[k] = x at *
        generalize qs[k] = y at *
        by_cases hxy : x = y
        · subst hxy
          have hq : (x != x) = false := by simp
          go_wp2_with fail
          go_quiet (fail)
          go_wp2_with fail
          go_roundw
          case rel => exact ⟨k + 1, by omega, by go_num, by rw [H1.out, H2.out, HE.out], by first | exact drewA HB.out _ | exact HB.out⟩
          case measure => simp [intOf]; omega
        · have hq : (x != y) = true := by simpa using hxy
          have hd : decide (ps = qs) = false := decide_eq_false fun h => hxy (HPS.out h)
          have HD := Lib.hid hd
          clear hd
          go_wp2_with fail
          go_quiet (fail)
          go_wp2_with fail
          go_ret
          rw [HD.out]
          exact ⟨rfl, by first | exact drewA HB.out _ | exact HB.out⟩
      · have hke : k = ps.length := by omega
        have hd : decide (ps = qs) = true := by
          apply decide_eq_true
          have := HE.out
          rw [hke, List.take_length, HNE.out, List.take_length] at this
          exact this
        have HD := Lib.hid hd
        have hkl : ¬ (k : Int) < (ps.length : Int) := by omega
        clear hd hke
        go_wp2_with fail
        go_ret
        rw [HD.out]
        exact ⟨rfl, HB.out⟩
  · have hlb : ((ps.length : Int) != (qs.length : Int)) = true := by simp; omega
    have hd : decide (ps = qs) = false := decide_eq_false fun h => hne (by rw [h])
    have HD := Lib.hid hd
    clear hd hne
    go_enter Try.func18, Try.ntmps18
    go_wp2_with fail
    go_ret
    rw [HD.out]
    exact ⟨rfl, Below.refl _ _⟩

/-! ### Is a number in a list -/
def HasRel (ps : List Int) (n : Int) (w : World) (i : Value) (wr : World) : Prop := ∃ k : Nat, k ≤ ps.length ∧ i = .int .i64 (k : Int) ∧ n ∉ ps.take k ∧ w = wr

set_option maxHeartbeats 1600000 in
theorem has_any (A : Option Addr) (c : Nat) (ps : List Int) (n : Int) (w : World) (hp : IntsAt w A ps) (hl : ps.length ≤ 9223372036854775807) :
    Calls Try.prog 19 #[.slice A ps.length c, .int .i64 n] w fun e w' => e = .returned (.bool (decide (n ∈ ps))) ∧ w = w' := by
  have HP := Lib.hid hp
  clear hp
  go_enter Try.func19, Try.ntmps19
  go_wp2_with fail
  go_loopw [5] (fun i wr => HasRel ps n w i wr) (fun i _ => ps.length - (intOf i).toNat)
  case atStart => exact ⟨0, Nat.zero_le _, rfl, by simp, rfl⟩
  case round =>
    obtain ⟨k, hk, rfl, hm, rfl⟩ := hrel
    have HM := Lib.hid hm
    clear hm
    by_cases hlt : k < ps.length
    · obtain ⟨b, o, rfl, hbl, hc, hz⟩ := HP.out k hlt
      have hklt : (k : Int) < (ps.length : Int) := by omega
      have h1 : ps.take (k + 1) = ps.take k ++ [ps[k]] := List.take_succ_eq_append_getElem hlt
      have hmem : ps[k] ∈ ps := List.getElem_mem hlt
      have H1 := Lib.hid h1
      have HMEM := Lib.hid hmem
      clear h1 hmem hz
      generalize ps[k] = x at *
      by_cases hx : x = n
      · subst hx
        have HD := Lib.hid (decide_eq_true HMEM.out)
        go_wp2_with fail
        go_ret
        rw [HD.out]
        exact ⟨rfl, rfl⟩
      · have hxb : (x == n) = false := by simpa using hx
        have hm2 : n ∉ ps.take (k + 1) := by
          rw [H1.out, List.mem_append]
          rintro (h | h)
          · exact HM.out h
          · exact hx (List.mem_singleton.1 h).symm
        have HM2 := Lib.hid hm2
        clear hm2
        go_wp2_with fail
        go_roundw
        case rel => exact ⟨k + 1, by omega, by go_num, HM2.out, rfl⟩
        case measure => simp [intOf]; omega
    · have hkl : ¬ (k : Int) < (ps.length : Int) := by omega
      have hm := HM.out
      rw [List.take_of_length_le (by omega)] at hm
      have HD := Lib.hid (decide_eq_false hm)
      clear hm
      go_wp2_with fail
      go_ret
      rw [HD.out]
      exact ⟨rfl, rfl⟩

/-! ### A place -/
theorem place_any (A : Option Addr) (c : Nat) (ps : List Int) (i : Nat) (w : World) (hp : IntsAt w A ps) (hl : ps.length ≤ 9223372036854775807) :
    Calls Try.prog 24 #[.slice A ps.length c, .int .i64 (i : Int)] w fun e w' => e = .returned (.int .i64 (pl ps i)) ∧ w = w' := by
  by_cases hlt : i < ps.length
  · obtain ⟨b, o, rfl, hbl, hc, hz⟩ := hp i hlt
    have hilt : (i : Int) < (ps.length : Int) := by omega
    have HE := Lib.hid (pl_at hlt)
    clear hp hz
    generalize ps[i] = x at *
    go_enter Try.func24, Try.ntmps24
    go_wp2_with fail
    go_ret
    rw [HE.out]
    exact ⟨rfl, rfl⟩
  · have hilt : ¬ (i : Int) < (ps.length : Int) := by omega
    have HE := Lib.hid (pl_out (Nat.le_of_not_lt hlt))
    clear hp
    go_enter Try.func24, Try.ntmps24
    go_wp2_with fail
    go_ret
    rw [HE.out]
    exact ⟨rfl, rfl⟩
end Go.Proofs.Ytadobhfmhcaofaa.im
