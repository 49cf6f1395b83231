/- What Fits of package disk does: the loop. -/
import Derived.Test.YtbpkgfhhoejmcaaDkFit2
import Derived.LoopTactic
namespace Go.Proofs.Ytbpkgfhhoejmcaa.dk
open Go Go.RowKit

/-- What a loop over the closure comes to. -/
def tell (d : DD) : List Int → List Int → Bool
  | _, [] => true
  | acc, x :: r => if (ask d acc x).1 then tell d (ask d acc x).2 r else false

theorem fresh_len (s : Sects) : ∀ (l acc : List Int), acc.length ≤ (fresh s acc l).length
  | [], _ => Nat.le_refl _
  | x :: r, acc => by
    unfold fresh
    split
    · exact fresh_len s r acc
    · exact Nat.le_trans (by simp) (fresh_len s r (acc ++ [x]))

theorem tell_eq (d : DD) : ∀ (l acc : List Int), (acc.length = 0 ∨ (acc.length : Int) ≤ d.room - (d.used : Int)) →
    tell d acc l = (l.all d.has && (decide ((fresh d.now acc l).length = 0) || decide (((fresh d.now acc l).length : Int) ≤ d.room - (d.used : Int))))
  | [], acc, h => by
    show true = _
    simp only [List.all_nil, fresh, Bool.true_and]
    rcases h with h | h <;> simp [h]
  | x :: r, acc, h => by
    unfold tell
    by_cases hh : d.has x = true
    · by_cases hs : (look d.now x).isSome = true
      · have e : ask d acc x = (true, acc) := by unfold ask; rw [if_neg (by rw [hh]; simp), if_pos hs]
        rw [e]
        simp only [if_true, List.all_cons, hh, Bool.true_and]
        rw [tell_eq d r acc h]
        conv => rhs; unfold fresh
        rw [hs]
        rfl
      · have e : ask d acc x = (decide (((addTo acc x).length : Int) ≤ d.room - (d.used : Int)), addTo acc x) := by unfold ask; rw [if_neg (by rw [hh]; simp), if_neg hs]
        have hf : fresh d.now acc (x :: r) = fresh d.now (addTo acc x) r := by
          conv => lhs; unfold fresh
          unfold addTo
          rw [show (look d.now x).isSome = false from by simpa using hs, Bool.false_or]
          split <;> rfl
        rw [e, hf]
        simp only [List.all_cons, hh, Bool.true_and]
        by_cases hle : ((addTo acc x).length : Int) ≤ d.room - (d.used : Int)
        · rw [decide_eq_true hle, if_pos rfl]
          exact tell_eq d r _ (.inr hle)
        · rw [decide_eq_false hle, if_neg (by simp)]
          have h1 := fresh_len d.now r (addTo acc x)
          have h2 : 0 < (addTo acc x).length := by
            unfold addTo
            split
            · rename_i hc
              cases acc with
              | nil => simp at hc
              | cons => simp
            · simp
          rw [decide_eq_false (by omega), decide_eq_false (by omega)]
          simp
    · have e : ask d acc x = (false, acc) := by unfold ask; rw [if_pos (by simpa using hh)]
      rw [e]
      simp [hh]

theorem fits_tell (d : DD) (l : List Int) : tell d [] l = d.fits l := tell_eq d l [] (.inl rfl)

/-- A slice of numbers. -/
def IntsAt (w : World) (a : Option Addr) (zs : List Int) : Prop :=
  ∀ i (h : i < zs.length), ∃ b o, a = some ⟨b, o, none⟩ ∧ b < w.heap.size ∧ w.cell? ⟨b, o + i, none⟩ = some (.int .i64 zs[i]) ∧ -9223372036854775808 ≤ zs[i] ∧ zs[i] ≤ 9223372036854775807

def okB (r : Bool) (w : World) (e : Ending) (w' : World) : Prop := e = .returned (.bool r) ∧ Below w.heap.size w w'

section
variable {w : World} {p m : Nat} {v : Value} {d : DD} {own : Nat → Prop} {B1 B4 B3 a : Nat} {acc : List Int}

theorem ask_any {most : Nat} (h0 : d.ok most) (h : DkAt w own p m v d) (he : Env w p B1 B4 B3 a (d.room - (d.used : Int)) acc) (x : Int) (hl : acc.length < maxLen) :
    Calls Try.prog 43 #[.int .i64 x, .pointer (some ⟨B1, 0, none⟩), .pointer (some ⟨B4, 0, none⟩), .pointer (some ⟨B3, 0, none⟩)] w (AskPost (ask d acc x) a w) := by
  unfold ask
  by_cases hh : d.has x = true
  · by_cases hs : (look d.now x).isSome = true
    · rw [if_neg (by rw [hh]; simp), if_pos hs]
      exact ask_old h0 h he x hh hs
    · rw [if_neg (by rw [hh]; simp), if_neg hs]
      exact ask_new h0 h he x hh (by simpa using hs) hl
  · rw [if_pos (by simpa using hh)]
    exact ask_not h he x (by simpa using hh)

theorem Env.step {w' : World} {free : Int} {acc' : List Int} (h : Env w p B1 B4 B3 a free acc) (hs : SetIs w' a acc') (hb : But (fun k => k = a) w w') : Env w' p B1 B4 B3 a free acc' := by
  have hne : ∀ {B t cs}, Blk w B t cs → B ≠ a := by
    rintro B t cs hB rfl
    obtain ⟨D, ⟨es, clock, q, _⟩, _⟩ := h.set_
    unfold Blk at hB
    rw [q] at hB
    cases hB
  exact ⟨h.b1.of_block (hb.block _ h.b1.lt (hne h.b1)), h.b4.of_block (hb.block _ h.b4.lt (hne h.b4)), h.b3.of_block (hb.block _ h.b3.lt (hne h.b3)), hs⟩

theorem ask_len (d : DD) (acc : List Int) (x : Int) : (ask d acc x).2.length ≤ acc.length + 1 := by
  unfold ask
  split
  · simp
  · split
    · simp
    · unfold addTo
      split <;> simp

/-- Between two rounds. -/
def FitRel (d : DD) (zs : List Int) (w : World) (p B1 B4 B3 a : Nat) (i : Value) (wr : World) : Prop :=
  ∃ k : Nat, k ≤ zs.length ∧ i = .int .i64 (k : Int) ∧ Below w.heap.size w wr ∧ ∃ acc, Env wr p B1 B4 B3 a (d.room - (d.used : Int)) acc ∧ acc.length ≤ k ∧ tell d acc (zs.drop k) = d.fits zs

set_option maxHeartbeats 800000 in
theorem fits_any {most : Nat} (h : DkIs most w own p d) (A : Option Addr) (c : Nat) (zs : List Int) (hz : IntsAt w A zs) (hzl : zs.length ≤ 1000000) :
    Calls Try.prog 19 #[.pointer (some ⟨p, 0, none⟩), .slice A zs.length c] w (okB (d.fits zs) w) := by
  obtain ⟨h0, m, v, h1⟩ := h
  have H0 := Lib.hid h0
  have H1 := Lib.hid h1
  have HZ := Lib.hid hz
  have HF := Lib.hid (fitter_any h0 h1)
  have hlow := h1.2.2.2.2.2.2
  have HL := Lib.hid hlow
  clear h0 h1 hz hlow
  go_enter Try.func19, Try.ntmps19
  go_wp2_with (go_at_call 38; refine HF.out.mono ?_)
  rintro e W1 ⟨B4, B3, a, rfl, hE, hb, ha⟩
  have HE := Lib.hid hE
  have HB := Lib.hid hb
  have HA := Lib.hid ha
  clear hE hb ha
  go_wp2_with fail
  go_loopw [14] (fun i wr => FitRel d zs w p w.heap.size B4 B3 a i wr) (fun i _ => zs.length - (intOf i).toNat)
  case atStart => exact ⟨0, Nat.zero_le _, rfl, HB.out, [], HE.out, Nat.le_refl _, fits_tell d zs⟩
  case round =>
    obtain ⟨k, hk, rfl, hB, acc, hEn, hac, htl⟩ := hrel
    have HBr := Lib.hid hB
    have HEr := Lib.hid hEn
    have HT := Lib.hid htl
    have HAc := Lib.hid hac
    by_cases hlt : k < zs.length
    · obtain ⟨b, o, rfl, hbw, hcell0, hx0, hx1⟩ := HZ.out k hlt
      have hcell : wr.cell? ⟨b, o + k, none⟩ = some (.int .i64 zs[k]) := by rw [hB.cell (p := ⟨b, o + k, none⟩) hbw]; exact hcell0
      have hkr : DkAt wr own p m v d := H1.out.keep hB.size (fun j hj => hB.block j (HL.out j hj))
      have hask := ask_any H0.out hkr hEn zs[k] (by unfold maxLen; omega)
      have hbs : b < wr.heap.size := Nat.lt_of_lt_of_le hbw hB.size
      have htl2 : d.fits zs = if (ask d acc zs[k]).1 then tell d (ask d acc zs[k]).2 (zs.drop (k + 1)) else false := by
        rw [← htl, List.drop_eq_getElem_cons hlt]
        rfl
      have hal := ask_len d acc zs[k]
      generalize zs[k] = x at *
      have HT2 := Lib.hid htl2
      have HAL := Lib.hid hal
      have HAsk := Lib.hid hask
      clear htl2 hal hask hB hEn htl hac hcell0 hbw hkr
      cases hq : (ask d acc x).1 with
      | true =>
        have HQ := Lib.hid hq
        rw [hq, if_pos rfl] at HT2
        clear hq
        go_wp2_with (go_at_call 43; refine HAsk.out.mono ?_)
        rintro e w2 ⟨rfl, hs2, hb2⟩
        rw [HQ.out]
        have HS2 := Lib.hid hs2
        have HB2 := Lib.hid hb2
        clear hs2 hb2
        go_wp2_with fail
        go_roundw
        case rel => exact ⟨k + 1, by omega, by go_num, HBr.out.trans (HB2.out.below (fun i e => by subst e; exact HA.out) HBr.out.size), _, HEr.out.step HS2.out HB2.out, (by have := HAc.out; have := HAL.out; omega), HT2.out.symm⟩
        case measure => simp [intOf]; omega
      | false =>
        have HQ := Lib.hid hq
        rw [hq, if_neg (by simp)] at HT2
        clear hq
        go_wp2_with (go_at_call 43; refine HAsk.out.mono ?_)
        rintro e w2 ⟨rfl, hs2, hb2⟩
        rw [HQ.out]
        have HB2 := Lib.hid hb2
        clear hs2 hb2
        go_wp2_with fail
        go_ret
        exact ⟨(by rw [HT2.out]; rfl), HBr.out.trans (HB2.out.below (fun i e => by subst e; exact HA.out) HBr.out.size)⟩
    · have hkn : k = zs.length := by omega
      subst hkn
      clear hB hEn htl hac
      go_wp2_with fail
      go_ret
      have := HT.out
      rw [List.drop_length] at this
      exact ⟨by rw [← this]; rfl, HBr.out⟩
end
end Go.Proofs.Ytbpkgfhhoejmcaa.dk
