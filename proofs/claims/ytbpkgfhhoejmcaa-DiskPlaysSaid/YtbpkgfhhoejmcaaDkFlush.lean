/- Write and Flush of package disk, whatever comes. -/
import Derived.Test.YtbpkgfhhoejmcaaDkWrite2
namespace Go.Proofs.Ytbpkgfhhoejmcaa.dk
open Go Go.RowKit

section
variable {w : World} {p m : Nat} {v : Value} {d : DD} {own : Nat → Prop}

theorem write_any {most : Nat} (h : DkIs most w own p d) (hm : d.more.length < most) (hmost : most ≤ 100000) (k : Int) (s : ByteArray) :
    Calls Try.prog 10 #[.pointer (some ⟨p, 0, none⟩), .int .i64 k, .string s] w (DkPost most own p (d.write k (bl s)).2 (.int .i64 (d.write k (bl s)).1) w) := by
  unfold DD.write
  by_cases h1 : d.on = false
  · rw [if_pos h1]
    exact write_off h h1 k s
  · rw [if_neg h1]
    have h1' : d.on = true := by simpa using h1
    by_cases h2 : d.has k = false
    · rw [if_pos (.inl h2)]
      exact write_not h h1' k h2 s
    · have h2' : d.has k = true := by simpa using h2
      by_cases h3 : s.size = 32
      · rw [if_neg (by rw [bl_len]; rintro (h | h); exact h2 h; exact h h3)]
        have hf := fits_one d k h2'
        by_cases h4 : (look d.now k).isSome = false ∧ d.room ≤ (d.used : Int)
        · rw [if_pos h4]
          refine write_full h h1' k h2' s h3 ?_
          rw [hf, h4.1, Bool.false_or]
          simp only [decide_eq_false_iff_not]
          omega
        · rw [if_neg h4]
          have hf' : d.fits [k] = true := by
            rw [hf]
            by_cases h5 : (look d.now k).isSome = true
            · rw [h5]; rfl
            · have h5' : (look d.now k).isSome = false := by simpa using h5
              rw [h5', Bool.false_or]
              simp only [decide_eq_true_eq]
              have : ¬ d.room ≤ (d.used : Int) := fun e => h4 ⟨h5', e⟩
              omega
          by_cases h5 : d.oper.on = false
          · rw [if_pos h5]
            exact write_gone h h1' k h2' s h3 hf' h5
          · rw [if_neg h5]
            exact write_done h hm hmost h1' k h2' s h3 hf' (by simpa using h5)
      · rw [if_pos (.inr (by rw [bl_len]; exact h3))]
        exact write_len h h1' k h2' s h3

theorem flush_any {most : Nat} (h : DkIs most w own p d) :
    Calls Try.prog 18 #[.pointer (some ⟨p, 0, none⟩)] w (DkPost most own p d.flush.2 (.int .i64 d.flush.1) w) := by
  unfold DD.flush
  by_cases hon : d.on = false
  · rw [if_pos hon]
    have H := Lib.hid h
    obtain ⟨h0, m, v, h1⟩ := h
    obtain ⟨c0, c1, c2, c3, c4, c5⟩ := blk6 h1.1
    rw [hon] at c4
    clear h0 h1 c0 c1 c2 c3 c5 hon
    go_enter Try.func18, Try.ntmps18
    go_wp2_with fail
    go_ret
    exact ⟨rfl, own, H.out, But.refl _ _, Grows.refl _ _⟩
  · rw [if_neg hon]
    have hon' : d.on = true := by simpa using hon
    have HO := Lib.hid (oper_any h hon')
    have H := Lib.hid h
    have hp := h.2.choose_spec.choose_spec.1.lt
    obtain ⟨h0, m, v, h1⟩ := h
    obtain ⟨c0, c1, c2, c3, c4, c5⟩ := blk6 h1.1
    rw [hon'] at c4
    clear h0 h1 c0 c1 c2 c3 c5 hon hon'
    by_cases hop : d.oper.on = false
    · rw [if_pos hop]
      rw [hop] at HO
      clear hop
      go_enter Try.func18, Try.ntmps18
      go_wp2_with (go_at_call 27; refine HO.out.mono ?_; rintro e w3 ⟨rfl, own3, hd3, hb3, hg3⟩; have HD3 := Lib.hid hd3; have HB3 := Lib.hid hb3; have HG3 := Lib.hid hg3; clear hd3 hb3 hg3)
      go_ret
      exact ⟨rfl, own3, HD3.out, HB3.out, HG3.out⟩
    · rw [if_neg hop]
      rw [show d.oper.on = true by simpa using hop] at HO
      clear hop
      go_enter Try.func18, Try.ntmps18
      go_wp2_with (go_at_call 27; refine HO.out.mono ?_)
      rintro e w3 ⟨rfl, own3, hd3, hb3, hg3⟩
      have HD3 := Lib.hid hd3
      have HB3 := Lib.hid hb3
      have HG3 := Lib.hid hg3
      obtain ⟨h30, m3, v3, h31⟩ := hd3
      have H30 := Lib.hid h30
      have H31 := Lib.hid h31
      obtain ⟨A, c, rfl⟩ := own_form h31.2.2.1
      obtain ⟨g0, g1, g2, g3, g4, g5⟩ := blk6 h31.1
      have f3 := h31.1.frozen 3
      have hp3 := h31.1.lt
      clear hb3 hg3 c4 h30 h31 HO
      go_wp2_with fail
      go_ret
      have hne := H31.out.ne
      refine ⟨rfl, own3, ⟨?_, m3, .slice none 0 0, ?_⟩, HB3.out.trans (S' := own3) ((But.refl _ _).setCell _ _ (.inl H31.out.2.2.2.1)) HG3.out, HG3.out⟩
      · have hl : d.now.length = d.oper.n := by rw [← oper_now]; exact d.oper.now_length
        refine { H30.out with n0 := ?_, n1 := ?_, more1 := Nat.zero_le _, at1 := fun _ h => by simp at h, base1 := ?_ }
        · show 1 ≤ d.now.length
          rw [hl]
          exact H30.out.n0
        · show d.now.length ≤ 1024
          rw [hl]
          exact H30.out.n1
        · show ∀ v, some v ∈ d.now → v.length = 32
          rw [← oper_now]
          exact H30.out.now1
      · obtain ⟨b1, b2, b3, b4, b5, b6, b7⟩ := H31.out
        refine ⟨?_, ?_, ⟨rfl, .inl ⟨rfl, rfl⟩⟩, b4, b5, fun k hk => by simp [Value.ownBlock] at hk, fun k hk => by rw [size_set]; exact b7 k hk⟩
        · have hl : (DD.n { d.oper with base := d.now, more := [] }) = d.oper.n := by
            show d.now.length = d.oper.n
            rw [← oper_now]
            exact d.oper.now_length
          rw [hl]
          exact b1.set_ 3 _
        · have hn : (DD.now { d.oper with base := d.now, more := [] }) = d.oper.now := by
            show d.now = d.oper.now
            rw [oper_now]
          rw [hn]
          exact b2.of_block (set_other _ _ _ _ _ (fun e => hne.1 e.symm))
end
end Go.Proofs.Ytbpkgfhhoejmcaa.dk
