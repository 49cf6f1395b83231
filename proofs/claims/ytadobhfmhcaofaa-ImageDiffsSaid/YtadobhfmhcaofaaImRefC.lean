/- The document's own Check. -/
import Derived.Test.YtadobhfmhcaofaaImRef
namespace Go.Proofs.Ytadobhfmhcaofaa.im
open Go Go.RowKit Go.Proofs.Ytadobhfmhcaofaa.ib
set_option maxRecDepth 100000

def CkOne (l : List Int) (n : Int) (w : World) (i : Value) (wr : World) : Prop := ∃ k : Nat, k ≤ l.length ∧ i = .int .i64 (k : Int) ∧ (l.take k).any (badP n) = false ∧ Below w.heap.size w wr
def CkTwo (l : List Int) (w : World) (i : Value) (wr : World) : Prop := ∃ k : Nat, k ≤ l.length ∧ i = .int .i64 (k : Int) ∧ dupTo l k = false ∧ Below w.heap.size w wr
def CkIn (l : List Int) (k : Nat) (w : World) (i : Value) (wr : World) : Prop := ∃ j : Nat, j ≤ k ∧ i = .int .i64 (j : Int) ∧ (decide (pl l k ≠ 0) && dupAt l k j) = false ∧ Below w.heap.size w wr

set_option maxHeartbeats 6400000 in
theorem rcheck_any (A : Option Addr) (c : Nat) (l : List Int) (b n : Int) (w : World) (hp : IntsAt w A l) (hl : l.length ≤ 1000) :
    Calls Try.prog 11 #[.slice A l.length c, .int .i64 b, .int .i64 n] w (endI (iCheck l b n) w) := by
  have HP := Lib.hid hp
  obtain ⟨res, hres⟩ : ∃ r, iCheck l b n = r := ⟨_, rfl⟩
  rw [hres]
  unfold iCheck at hres
  clear hp
  by_cases h0 : b < 1
  · rw [if_pos (.inl h0)] at hres
    subst hres
    go_enter Try.func11, Try.ntmps11
    go_wp2_with fail
    go_ret
    exact ⟨rfl, Below.refl _ _⟩
  by_cases h1 : 8 < b
  · rw [if_pos (.inr (.inl h1))] at hres
    subst hres
    go_enter Try.func11, Try.ntmps11
    go_wp2_with fail
    go_ret
    exact ⟨rfl, Below.refl _ _⟩
  by_cases h2 : (l.length : Int) = b
  · rw [if_neg (by omega)] at hres
    have hlb : ((l.length : Int) != b) = false := by rw [h2]; simp
    have HRES := Lib.hid hres
    clear hres h2
    go_enter Try.func11, Try.ntmps11
    go_wp2_with fail
    go_loopw [7] (fun i wr => CkOne l n w i wr) (fun i _ => l.length - (intOf i).toNat)
    case atStart => exact ⟨0, Nat.zero_le _, rfl, by simp, Below.refl _ _⟩
    case round =>
      obtain ⟨k, hk, rfl, ha, hb⟩ := hrel
      have HA := Lib.hid ha
      have HB := Lib.hid hb
      clear ha hb
      by_cases hlt : k < l.length
      · have hklt : (k : Int) < (l.length : Int) := by omega
        have HS := Lib.hid (any_snoc hlt (badP n))
        have HT := Lib.hid (fun h => any_at (p := badP n) hlt h)
        obtain ⟨bl, o, rfl, hbl, hc, hz⟩ := HP.out k hlt
        have e0 : wr.cell? ⟨bl, o + k, none⟩ = some (.int .i64 l[k]) := by rw [HB.out.cell (p := ⟨bl, o + k, none⟩) hbl]; exact hc
        have l0 : bl < wr.heap.size := Nat.lt_of_lt_of_le hbl HB.out.size
        clear hc hz
        generalize l[k] = x at *
        by_cases hx : x = 0
        · subst hx
          have hs : (l.take (k + 1)).any (badP n) = false := by rw [HS.out, HA.out]; rfl
          have HS2 := Lib.hid hs
          clear hs
          go_wp2_with fail
          go_roundw
          case rel => exact ⟨k + 1, by omega, by go_num, HS2.out, HB.out⟩
          case measure => simp [intOf]; omega
        · have hxb : (x != 0) = true := by simpa using hx
          by_cases hbad : x < 193 ∨ n ≤ x
          · have hbp : badP n x = true := by
              unfold badP
              rw [decide_eq_true hx, Bool.true_and]
              rcases hbad with h | h
              · rw [decide_eq_true h, Bool.true_or]
              · rw [decide_eq_true h, Bool.or_true]
            have hr : res = 2 := by rw [← HRES.out, if_pos (HT.out hbp)]
            subst hr
            by_cases hlow : x < 193
            · go_wp2_with fail
              go_ret
              exact ⟨rfl, HB.out⟩
            · have hge : n ≤ x := by omega
              go_wp2_with fail
              go_ret
              exact ⟨rfl, HB.out⟩
          · have hlow : ¬ x < 193 := fun h => hbad (.inl h)
            have hge : ¬ n ≤ x := fun h => hbad (.inr h)
            have hs : (l.take (k + 1)).any (badP n) = false := by
              rw [HS.out, HA.out]
              unfold badP
              rw [decide_eq_false hlow, decide_eq_false hge, Bool.or_false, Bool.and_false, Bool.or_false]
            have HS2 := Lib.hid hs
            clear hs
            go_wp2_with fail
            go_roundw
            case rel => exact ⟨k + 1, by omega, by go_num, HS2.out, HB.out⟩
            case measure => simp [intOf]; omega
      · have hklt : ¬ (k : Int) < (l.length : Int) := by omega
        have hres := HRES.out
        have ha := HA.out
        rw [List.take_of_length_le (by omega)] at ha
        rw [ha, if_neg (by decide)] at hres
        have HR2 := Lib.hid hres
        have HB1 := HB
        clear ha hres HRES HA hk
        go_wp2_with fail
        obtain ⟨wo, hwo⟩ : ∃ x, x = wr := ⟨_, rfl⟩
        subst hwo
        go_loopw [8] (fun i wr => CkTwo l w i wr) (fun i _ => l.length - (intOf i).toNat)
        case atStart => exact ⟨0, Nat.zero_le _, rfl, rfl, HB1.out⟩
        case round =>
          clear HB1 HB
          obtain ⟨k, hk, rfl, ha, hb⟩ := hrel
          have HA := Lib.hid ha
          have HB := Lib.hid hb
          clear ha hb
          by_cases hlt : k < l.length
          · have hklt : (k : Int) < (l.length : Int) := by omega
            have HS := Lib.hid (dupTo_succ l k)
            go_wp2_with fail
            go_loopw [9] (fun i wr => CkIn l k w i wr) (fun i _ => k - (intOf i).toNat)
            case atStart => exact ⟨0, Nat.zero_le _, rfl, by simp [dupAt], HB.out⟩
            case round =>
              obtain ⟨j, hj, rfl, hd, hb⟩ := hrel
              have HD := Lib.hid hd
              have HB2 := Lib.hid hb
              clear hd hb
              by_cases hjk : j < k
              · have hjki : (j : Int) < (k : Int) := by omega
                have hjlt : j < l.length := by omega
                have hjlti : (j : Int) < (l.length : Int) := by omega
                obtain ⟨bl, o, rfl, hbl, hc, hz⟩ := HP.out k hlt
                obtain ⟨bl', o', hA', hbl', hc', hz'⟩ := HP.out j hjlt
                simp only [Option.some.injEq, Addr.mk.injEq, and_true] at hA'
                obtain ⟨rfl, rfl⟩ := hA'
                have e0 : wr.cell? ⟨bl, o + k, none⟩ = some (.int .i64 l[k]) := by rw [HB2.out.cell (p := ⟨bl, o + k, none⟩) hbl]; exact hc
                have e1 : wr.cell? ⟨bl, o + j, none⟩ = some (.int .i64 l[j]) := by rw [HB2.out.cell (p := ⟨bl, o + j, none⟩) hbl]; exact hc'
                have l0 : bl < wr.heap.size := Nat.lt_of_lt_of_le hbl HB2.out.size
                have hpk : pl l k = l[k] := pl_at hlt
                have hpj : pl l j = l[j] := pl_at hjlt
                have HDA := Lib.hid (dupAt_succ l k j)
                have HDT := Lib.hid (fun h0 h => dupTo_true (l := l) (m := l.length) hlt hjk h0 h)
                rw [hpk, hpj] at HDT HDA
                rw [hpk] at HD
                have HPK := Lib.hid hpk
                clear hc hc' hz hz' hbl hbl' hpj hpk
                generalize l[k] = x at *
                generalize l[j] = y at *
                by_cases hx : x = 0
                · subst hx
                  have hx0 : ((0 : Int) != 0) = false := rfl
                  have hs : (decide (pl l k ≠ 0) && dupAt l k (j + 1)) = false := by rw [HPK.out]; rfl
                  have HS2 := Lib.hid hs
                  clear hs
                  go_wp2_with fail
                  go_quiet (fail)
                  go_wp2_with fail
                  go_roundw
                  case rel => exact ⟨j + 1, by omega, by go_num, HS2.out, by first | exact drewA HB2.out _ | exact HB2.out⟩
                  case measure => simp [intOf]; omega
                · have hxb : (x != 0) = true := by simpa using hx
                  by_cases hxy : x = y
                  · have hr : res = 16 := by rw [← HR2.out, if_pos (HDT.out hx hxy)]
                    subst hr
                    have hxyb : (x == y) = true := by simpa using hxy
                    clear hxy
                    go_wp2_with fail
                    go_quiet (fail)
                    go_wp2_with fail
                    go_ret
                    exact ⟨rfl, by first | exact drewA HB2.out _ | exact HB2.out⟩
                  · have hxyb : (x == y) = false := by simpa using hxy
                    have hs : (decide (pl l k ≠ 0) && dupAt l k (j + 1)) = false := by
                      have hd := HD.out
                      rw [decide_eq_true hx, Bool.true_and] at hd
                      rw [HPK.out, decide_eq_true hx, Bool.true_and, HDA.out, hd, decide_eq_false hxy]
                      rfl
                    have HS2 := Lib.hid hs
                    clear hs hxy
                    go_wp2_with fail
                    go_quiet (fail)
                    go_wp2_with fail
                    go_roundw
                    case rel => exact ⟨j + 1, by omega, by go_num, HS2.out, by first | exact drewA HB2.out _ | exact HB2.out⟩
                    case measure => simp [intOf]; omega
              · have hjki : ¬ (j : Int) < (k : Int) := by omega
                have hs : dupTo l (k + 1) = false := by
                  have hd := HD.out
                  rw [show j = k by omega] at hd
                  rw [HS.out, HA.out, hd]
                  rfl
                have HS2 := Lib.hid hs
                clear hs
                go_wp2_with fail
                go_roundw
                case rel => exact ⟨k + 1, by omega, by go_num, HS2.out, HB2.out⟩
                case measure => simp [intOf]; omega
          · have hklt : ¬ (k : Int) < (l.length : Int) := by omega
            have hr : res = 0 := by
              have ha := HA.out
              rw [show k = l.length by omega] at ha
              rw [← HR2.out, ha, if_neg (by decide)]
            subst hr
            go_wp2_with fail
            go_ret
            exact ⟨rfl, HB.out⟩
  · rw [if_pos (.inr (.inr h2))] at hres
    subst hres
    have hlb : ((l.length : Int) != b) = true := by simpa using h2
    clear h2
    go_enter Try.func11, Try.ntmps11
    go_wp2_with fail
    go_ret
    exact ⟨rfl, Below.refl _ _⟩
end Go.Proofs.Ytadobhfmhcaofaa.im
