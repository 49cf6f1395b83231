/- What the document's own Unpack does. -/
import Derived.Test.YtpjjmaknajjimaaDoorFRPack
import Derived.Test.YtpjjmaknajjimaaDoorFUnpack
namespace Go.Proofs.YtpjjmaknajjimaaDoor
open Go.RowKit

/-- The text whose sectors these are, or ErrForm. -/
def okUn (ps : List (List UInt8)) (w : World) (e : Ending) (w' : World) : Prop :=
  ((∃ t, IsText ps t ∧ e = .returned (.tuple #[.string (str t), .int .i64 0])) ∨ ((∀ t, ¬ IsText ps t) ∧ e = .returned (.tuple #[.string ⟨#[]⟩, .int .i64 4]))) ∧ Below w.heap.size w w'

def RUnRel (ps : List (List UInt8)) (w : World) (f i : Value) (wr : World) : Prop :=
  ∃ k : Nat, k ≤ ps.length ∧ k ≤ 301 ∧ i = .int .i64 (k : Int) ∧ f = .string (str (ps.take k).flatten) ∧ (∀ j (h : j < ps.length), j < k → ps[j].length = 32) ∧ Below w.heap.size w wr

theorem none_size (ps : List (List UInt8)) (k : Nat) (h : k < ps.length) (hk : ps[k].length ≠ 32) : ∀ t, ¬ IsText ps t := by
  intro t ht
  obtain ⟨_, rfl⟩ := ht
  exact hk (secs_each t k h)

theorem none_many (ps : List (List UInt8)) (h : 300 < ps.length) : ∀ t, ¬ IsText ps t := by
  intro t ht
  have h1 := ht.1
  rw [ht.2, secs_length] at h
  unfold nsec at h
  omega

theorem none_empty : ∀ t, ¬ IsText [] t := by
  intro t ht
  have h := congrArg List.length ht.2
  rw [secs_length] at h
  have := nsec_pos t.length
  simp at h
  omega

/-- What the first two bytes of sectors say. -/
theorem text_len (ps : List (List UInt8)) (t : List UInt8) (ht : IsText ps t) (h0 : 0 < ps.flatten.length) (h1 : 1 < ps.flatten.length) : 256 * (ps.flatten[0]).toNat + (ps.flatten[1]).toNat = t.length := by
  have hf : ps.flatten = wholeB t := by rw [ht.2, flatten_secs]
  have e0 : ps.flatten[0] = UInt8.ofNat (t.length / 256 % 256) := by simp only [hf]; rfl
  have e1 : ps.flatten[1] = UInt8.ofNat (t.length % 256) := by simp only [hf]; rfl
  rw [e0, e1]
  exact len2_val _ (by have := ht.1; omega)

theorem none_len (ps : List (List UInt8)) (h0 : 0 < ps.flatten.length) (h1 : 1 < ps.flatten.length) (n : Nat) (hn : 256 * (ps.flatten[0]).toNat + (ps.flatten[1]).toNat = n) (h : 8192 < n ∨ ps.flatten.length < 6 + n) : ∀ t, ¬ IsText ps t := by
  intro t ht
  have e := text_len ps t ht h0 h1
  have hf : ps.flatten = wholeB t := by rw [ht.2, flatten_secs]
  have hl := wholeB_length t
  have hle := nsec_le t.length
  have h8 := ht.1
  rw [← hf] at hl
  omega

theorem none_whole (ps : List (List UInt8)) (h0 : 0 < ps.flatten.length) (h1 : 1 < ps.flatten.length) (n : Nat) (hn : 256 * (ps.flatten[0]).toNat + (ps.flatten[1]).toNat = n) (h : wholeB ((ps.flatten.drop 6).take n) ≠ ps.flatten) : ∀ t, ¬ IsText ps t := by
  intro t ht
  have e := text_len ps t ht h0 h1
  have hf : ps.flatten = wholeB t := by rw [ht.2, flatten_secs]
  apply h
  rw [hf, ← hn, e, wholeB_text]

theorem un_val (y : ByteArray) (h0 : 0 < y.size) (h1 : 1 < y.size) :
    ∃ n : Nat, wrap64 (wrap64 ((256 : Int) * wrap64 ((y[0]'h0).toNat : Int)) + wrap64 ((y[1]'h1).toNat : Int)) = (n : Int) ∧ n < 65536 ∧
      ∀ (l : List UInt8) (_ : bl y = l) (j0 : 0 < l.length) (j1 : 1 < l.length), 256 * (l[0]).toNat + (l[1]).toNat = n := by
  have u0 := (y[0]'h0).toNat_lt
  have u1 := (y[1]'h1).toNat_lt
  refine ⟨256 * (y[0]'h0).toNat + (y[1]'h1).toNat, ?_, by omega, ?_⟩
  · generalize (y[0]'h0).toNat = p at *
    generalize (y[1]'h1).toNat = q at *
    unfold wrap64
    omega
  · rintro l rfl j0 j1
    rfl

theorem un_text (f : List UInt8) (n : Nat) : (str f).extract 6 (6 + n) = str ((f.drop 6).take n) := by
  rw [← str_bl (ByteArray.extract _ _ _), bl_extract, bl_str, Nat.add_sub_cancel_left]

set_option maxHeartbeats 1600000 in
theorem runpack_any (a : Option Addr) (c : Nat) (ps : List (List UInt8)) (w : World) (hp : StrsAt w a ps) (hpl : ps.length ≤ 1000) (hfs : ps.flatten.length ≤ 100000) :
    Calls Tryd.prog 15 #[.slice a ps.length c] w (okUn ps w) := by
  have HP := Lib.hid hp
  clear hp
  go_enter Tryd.func15, Tryd.ntmps15
  go_wp2
  go_loopw [4, 5] (fun f i wr => RUnRel ps w f i wr) (fun _ i _ => ps.length - (intOf i).toNat)
  case atStart => exact ⟨0, Nat.zero_le _, by omega, rfl, rfl, fun j _ h => absurd h (by omega), Below.refl _ _⟩
  case round =>
    obtain ⟨k, hk, hk3, rfl, rfl, hall, hB⟩ := hrel
    by_cases hlt : k < ps.length ∧ k ≤ 300
    · obtain ⟨hlt, hk300⟩ := hlt
      obtain ⟨b1, o1, rfl, hb1, hc1⟩ := HP.out k hlt
      have hcell1 : wr.cell? ⟨b1, o1 + k, none⟩ = some (.string (str ps[k])) := by rw [hB.cell (p := ⟨b1, o1 + k, none⟩) hb1]; exact hc1
      have hsz := str_size ps[k]
      by_cases h32 : ps[k].length = 32
      · have hfl := flatten_take_snoc ps k hlt
        have hfm := flatten_take_len ps k
        have hadd : str (ps.take k).flatten ++ str ps[k] = str (ps.take (k + 1)).flatten := by rw [str_add, ← hfl]
        have hzf := str_size (ps.take k).flatten
        have hall' : ∀ j (h : j < ps.length), j < k + 1 → ps[j].length = 32 := by
          intro j h hj
          by_cases e : j = k
          · subst e; exact h32
          · exact hall j h (by omega)
        have h32s : (str ps[k]).size = 32 := by omega
        have Hadd := Lib.hid hadd
        have Hall := Lib.hid hall'
        have hzl : (str (ps.take k).flatten).size ≤ 100000 := by omega
        clear hc1 hfl hadd hall hall' hzf hsz h32
        generalize str ps[k] = x at *
        generalize str (ps.take k).flatten = y at *
        go_wp2
        go_roundw
        case rel => exact ⟨k + 1, by omega, by omega, by go_num, by rw [← Hadd.out], Hall.out, hB⟩
        case measure => simp [intOf]; omega
      · have hn := Lib.hid (none_size ps k hlt h32)
        have h32s : ¬ ((str ps[k]).size : Int) = 32 := by omega
        clear hc1 hsz h32 hall
        generalize str ps[k] = x at *
        generalize str (ps.take k).flatten = y at *
        go_wp2
        go_ret2
        exact ⟨Or.inr ⟨hn.out, rfl⟩, hB⟩
    · have hfl := flatten_take_len ps k
      by_cases hmany : 300 < ps.length
      · have hn := Lib.hid (none_many ps hmany)
        have hk' : k = 301 := by omega
        have hc3 : (300 : Int) < (ps.length : Int) := by omega
        have hci : ¬ (k : Int) ≤ 300 := by omega
        clear hall hfl
        generalize str (ps.take k).flatten = y at *
        by_cases he0 : y.size = 0
        · have he : ((y.size : Int) == 0) = true := by rw [he0]; rfl
          clear he0
          go_wp2
          all_goals
            go_ret2
            exact ⟨Or.inr ⟨hn.out, rfl⟩, hB⟩
        · have he : ((y.size : Int) == 0) = false := by rw [beq_eq_false_iff_ne]; omega
          go_wp2
          all_goals
            go_ret2
            exact ⟨Or.inr ⟨hn.out, rfl⟩, hB⟩
      · have hk' : k = ps.length := by omega
        have hall2 : ∀ i (h : i < ps.length), ps[i].length = 32 := fun i h => hall i h (by omega)
        have hfl2 := flatten_length32 ps hall2
        have hcl : ¬ (k : Int) < (ps.length : Int) := by omega
        have hc3 : ¬ (300 : Int) < (ps.length : Int) := by omega
        have htk : (ps.take k).flatten = ps.flatten := by rw [hk', List.take_length]
        rw [htk]
        have hzf := str_size ps.flatten
        by_cases h0 : ps.length = 0
        · have hps : ps = [] := List.length_eq_zero_iff.1 h0
          have hn : Hid (∀ t, ¬ IsText ps t) := Lib.hid (by rw [hps]; exact none_empty)
          have he : ((str ps.flatten).size : Int) = 0 := by omega
          clear hall hfl hps htk hall2 hzf
          generalize str ps.flatten = y at *
          go_wp2
          go_ret2
          exact ⟨Or.inr ⟨hn.out, rfl⟩, hB⟩
        · have he : (((str ps.flatten).size : Int) == 0) = false := by rw [beq_eq_false_iff_ne]; omega
          have j0 : 0 < ps.flatten.length := by omega
          have j1 : 1 < ps.flatten.length := by omega
          have y0 : 0 < (str ps.flatten).size := by omega
          have y1 : 1 < (str ps.flatten).size := by omega
          obtain ⟨n, hw, hnl, hn0⟩ := un_val (str ps.flatten) y0 y1
          have hn := hn0 ps.flatten (bl_str _) j0 j1
          have hs1 := is_secs ps
          have hlen := none_len ps j0 j1 n hn
          have hwhole := none_whole ps j0 j1 n hn
          have Hw := Lib.hid hw
          have htx := un_text ps.flatten n
          have Htx := Lib.hid htx
          have Hlen := Lib.hid hlen
          have Hwhole := Lib.hid hwhole
          have Hs1 := Lib.hid hs1
          have Hall2 := Lib.hid hall2
          have hyl : 32 ≤ (str ps.flatten).size := by omega
          have hyl2 : (str ps.flatten).size ≤ 100000 := by omega
          have i0 : (0 : Int) < ((str ps.flatten).size : Int) := by omega
          have i1 : (1 : Int) < ((str ps.flatten).size : Int) := by omega
          have Hblf := Lib.hid (bl_str ps.flatten)
          have Hzf := Lib.hid hzf
          clear hall hfl htk hall2 hzf hn hn0 hlen hwhole hw htx hs1 hfl2
          generalize hyy : str ps.flatten = y at *
          have Hyy := Lib.hid hyy
          clear hyy
          go_wp2
          go_quiet (fail)
          rw [Hw.out]
          clear Hw
          have hB1 := below_drewN hB nq
          generalize wr.drewN nq = wd at *
          by_cases h8 : 8192 < n
          · have hno := Lib.hid (Hlen.out (Or.inl h8))
            have hc8 : (8192 : Int) < (n : Int) := by omega
            go_wp2
            go_ret2
            exact ⟨Or.inr ⟨hno.out, rfl⟩, hB1⟩
          · have hc8 : ¬ (8192 : Int) < (n : Int) := by omega
            have hyf : y.size = ps.flatten.length := Hzf.out
            by_cases h6 : y.size < 6 + n
            · have hno := Lib.hid (Hlen.out (Or.inr (by omega)))
              have hc6 : (y.size : Int) < 6 + (n : Int) := by omega
              clear hyf
              go_wp2
              go_ret2
              exact ⟨Or.inr ⟨hno.out, rfl⟩, hB1⟩
            · have hc6 : ¬ (y.size : Int) < 6 + (n : Int) := by omega
              have hc7 : 6 + (n : Int) ≤ (y.size : Int) := by omega
              have htl : ((ps.flatten.drop 6).take n).length ≤ 8192 := by rw [List.length_take]; omega
              have hts : (str ((ps.flatten.drop 6).take n)).size ≤ 100000 := by rw [str_size]; omega
              have hwh : ∀ W, Calls Tryd.prog 20 #[.string (y.extract 6 (6 + n))] W (okStr (str (wholeB ((ps.flatten.drop 6).take n))) W) := by
                intro W
                rw [Htx.out]
                have := whole_any (str ((ps.flatten.drop 6).take n)) W hts
                rwa [bl_str] at this
              have hq : ((str (wholeB ((ps.flatten.drop 6).take n))).toList == y.toList) = decide (wholeB ((ps.flatten.drop 6).take n) = ps.flatten) := by
                rw [← Hyy.out, beq_bl, bl_str]
              have Hwh := Lib.hid hwh
              have Hq := Lib.hid hq
              have Htl := Lib.hid htl
              clear hyf htl hts hwh hq h6
              by_cases hW : wholeB ((ps.flatten.drop 6).take n) = ps.flatten
              · have hqt : ((str (wholeB ((ps.flatten.drop 6).take n))).toList == y.toList) = true := by rw [Hq.out]; simpa using hW
                have hyes : Hid (IsText ps ((ps.flatten.drop 6).take n)) := Lib.hid ⟨Htl.out, Hs1.out _ Hall2.out hW.symm⟩
                clear Hq hW Hwhole Hlen
                generalize (ps.flatten.drop 6).take n = tx at *
                generalize str (wholeB tx) = z at *
                go_wp2_with (go_at_call 20; refine (Hwh.out _).mono ?_)
                rintro e W2 ⟨rfl, b2⟩
                have hB3 := below_step hB1 b2
                clear b2 hB1
                go_wp2
                go_ret2
                exact ⟨Or.inl ⟨tx, hyes.out, by rw [← Htx.out]; rfl⟩, hB3⟩
              · have hqf : ((str (wholeB ((ps.flatten.drop 6).take n))).toList == y.toList) = false := by rw [Hq.out]; simpa using hW
                have hno := Lib.hid (Hwhole.out hW)
                clear Hq hW Hwhole Hlen
                generalize (ps.flatten.drop 6).take n = tx at *
                generalize str (wholeB tx) = z at *
                go_wp2_with (go_at_call 20; refine (Hwh.out _).mono ?_)
                rintro e W2 ⟨rfl, b2⟩
                have hB3 := below_step hB1 b2
                clear b2 hB1
                go_wp2
                go_ret2
                exact ⟨Or.inr ⟨hno.out, rfl⟩, hB3⟩

end Go.Proofs.YtpjjmaknajjimaaDoor
