/- The walk of FrameUnpacks. -/
import Derived.Test.YtpjjmaknajjimaaDoorFWorks
import Derived.Test.YtpjjmaknajjimaaDoorFRUn
import Derived.Test.YtpjjmaknajjimaaDoorStep
import Derived.Test.YtpjjmaknajjimaaDoorArgs
namespace Go.Proofs.YtpjjmaknajjimaaDoor
open Go.RowKit

def cut40 (ts : List ByteArray) (k : Nat) : List (List UInt8) := (ts.take k).map fun s => (bl s).take 40

theorem cut40_length (ts : List ByteArray) (k : Nat) (h : k ≤ ts.length) : (cut40 ts k).length = k := by simp [cut40]; omega
theorem cut40_snoc (ts : List ByteArray) (k : Nat) (h : k < ts.length) : cut40 ts (k + 1) = cut40 ts k ++ [(bl ts[k]).take 40] := by
  unfold cut40
  rw [List.take_succ_eq_append_getElem h, List.map_append]
  rfl

theorem flatten_le (ps : List (List UInt8)) (n : Nat) (h : ∀ p ∈ ps, p.length ≤ n) : ps.flatten.length ≤ n * ps.length := by
  induction ps with
  | nil => simp
  | cons p ps ih =>
    have h1 := h p (by simp)
    have h2 := ih fun q hq => h q (by simp [hq])
    rw [List.flatten_cons, List.length_append, List.length_cons, Nat.mul_succ]
    omega

theorem cut40_flat (ts : List ByteArray) (k : Nat) : (cut40 ts k).flatten.length ≤ 40 * (cut40 ts k).length := by
  refine flatten_le _ 40 fun p hp => ?_
  obtain ⟨s, _, rfl⟩ := List.mem_map.1 hp
  rw [List.length_take]; omega

theorem extract40 (s : ByteArray) : s.extract 0 (min (s.size : Int) 40).toNat = str ((bl s).take 40) := by
  rw [← str_bl (ByteArray.extract _ _ _), bl_upto]
  congr 1
  by_cases h : s.size ≤ 40
  · rw [List.take_of_length_le (by rw [bl_len]; omega), List.take_of_length_le (by rw [bl_len]; omega)]
  · congr 1; omega

theorem one_news' (w : World) (v : Value) :
    ∀ j u, ([v] : List Value)[j]? = some u → (w.alloc (.cells #[v] 9)).drew.cell? ((⟨w.heap.size, 0, none⟩ : Addr).add j) = some u := by
  intro j u hj
  match j, hj with
  | 0, hj =>
    simp at hj
    subst hj
    rw [addr_add]
    show (w.alloc (.cells #[v] 9)).cell? ⟨w.heap.size, 0 + 0, none⟩ = some v
    rw [cell_of_row _ _ _ _ _ _ (heap_alloc_new w (.cells #[v] 9))]
    rfl

theorem one_cell' (s : ByteArray) : ∀ u ∈ ([Value.string s] : List Value), u.oneCell' = true := by
  intro u hu
  simp at hu
  subst hu
  rfl

def UnpRel (ts : List ByteArray) (w : World) (v i : Value) (wr : World) : Prop :=
  ∃ k : Nat, k ≤ ts.length ∧ i = .int .i64 (k : Int) ∧ OwnsStrs wr w.heap.size v (cut40 ts k) ∧ Below w.heap.size w wr

def okSX (s : ByteArray) (x : Int) (w : World) (e : Ending) (w' : World) : Prop :=
  e = .returned (.tuple #[.string s, .int .i64 x]) ∧ Below w.heap.size w w'

/-- Both answers are one, whatever the sectors are. -/
theorem un_fixed (ps : List (List UInt8)) (hpl : ps.length ≤ 1000) (hfl : ps.flatten.length ≤ 100000) :
    ∃ s x, (∀ v B W, OwnsStrs W B v ps → CTab W → Calls Tryd.prog 14 #[v] W (okSX s x W)) ∧
      (∀ v B W, OwnsStrs W B v ps → Calls Tryd.prog 15 #[v] W (okSX s x W)) := by
  by_cases hx : ∃ t, IsText ps t
  · obtain ⟨t, ht⟩ := hx
    refine ⟨str t, 0, fun v B W h hT => ?_, fun v B W h => ?_⟩
    · obtain ⟨a, c, rfl, _, _, hs, _, _⟩ := h.view
      exact unpack_some a c ps t W hs ht hT
    · obtain ⟨a, c, rfl, _, _, hs, _, _⟩ := h.view
      refine (runpack_any a c ps W hs hpl hfl).mono fun e w' ⟨hc, hb⟩ => ⟨?_, hb⟩
      rcases hc with ⟨u, hu, he⟩ | ⟨hm, _⟩
      · obtain rfl := isText_one ps t u ht hu
        exact he
      · exact absurd ht (hm t)
  · have hn : ∀ t, ¬ IsText ps t := fun t ht => hx ⟨t, ht⟩
    refine ⟨⟨#[]⟩, 4, fun v B W h hT => ?_, fun v B W h => ?_⟩
    · obtain ⟨a, c, rfl, _, _, hs, _, _⟩ := h.view
      exact unpack_none a c ps W hs hpl hfl hn hT
    · obtain ⟨a, c, rfl, _, _, hs, _, _⟩ := h.view
      refine (runpack_any a c ps W hs hpl hfl).mono fun e w' ⟨hc, hb⟩ => ⟨?_, hb⟩
      rcases hc with ⟨u, hu, _⟩ | ⟨_, he⟩
      · exact absurd hu (hn u)
      · exact he

set_option maxHeartbeats 1600000 in
set_option maxRecDepth 100000 in
theorem frameUnpacks_walk (a : Option Addr) (l c : Nat) (ts : List ByteArray) (w : World) (hl : ts.length = min l 320) (hlc : l ≤ 9223372036854775807) (hT : TextsAt w a ts) (ht : CTab w) :
    Calls Tryd.prog 4 #[.slice a l c] w (okTrue w) := by
  obtain ⟨i0, hi, hz0, hz1, hz2⟩ := info_parts Tryd.info9
  have HT := Lib.hid ht
  have hg := ht.1
  have HTS := Lib.hid hT
  clear ht hT
  go_enter Tryd.func4, Tryd.ntmps4
  go_wp2
  go_loopw [3, 4] (fun v i wr => UnpRel ts w v i wr) (fun _ i _ => ts.length - (intOf i).toNat)
  case atStart => exact ⟨0, Nat.zero_le _, rfl, World.ownsRow_nil _ _ _ _, Below.refl _ _⟩
  case round =>
    obtain ⟨k, hk, rfl, hown, hB⟩ := hrel
    by_cases hlt : k < ts.length
    · obtain ⟨b, o, rfl, hb, hc⟩ := HTS.out k hlt
      have hcell : wr.cell? ⟨b, o + k, none⟩ = some (.string ts[k]) := by rw [hB.cell (p := ⟨b, o + k, none⟩) hb]; exact hc
      have hbw : b < wr.heap.size := Nat.lt_of_lt_of_le hb hB.size
      have hkl : (k : Int) < (l : Int) := by omega
      have hk3 : (k : Int) < 320 := by omega
      have hlen := cut40_length ts k hk
      have hsnoc := Lib.hid (cut40_snoc ts k hlt)
      have hex := Lib.hid (extract40 ts[k])
      have hown2 := World.ownsRow.alloc hown (.cells #[.string (ts[k].extract 0 (min (ts[k].size : Int) 40).toNat)] 9)
      rw [hlen] at hown2
      have Hown2 : Hid (((wr.alloc (.cells #[.string (ts[k].extract 0 (min (ts[k].size : Int) 40).toNat)] 9)).drew).ownsRow w.heap.size 9 1 _ k (strVals (cut40 ts k))) := Lib.hid hown2
      have hB2 := (below_new hB (.cells #[.string (ts[k].extract 0 (min (ts[k].size : Int) 40).toNat)] 9)).drew
      have hb2s := hB2.size
      have hnews := one_news' wr (.string (ts[k].extract 0 (min (ts[k].size : Int) 40).toNat))
      have Hnews := Lib.hid hnews
      have H1c := Lib.hid (one_cell' (ts[k].extract 0 (min (ts[k].size : Int) 40).toNat))
      have hm0 : (0 : Int) ≤ min (ts[k].size : Int) 40 := by omega
      have hm1 : min (ts[k].size : Int) 40 ≤ (ts[k].size : Int) := by omega
      clear hown2 hnews hown hB hc
      go_wp2
      go_region_law (refine step_append_own rfl (.tmp 19) (.tmp 31) 22 rfl w.heap.size 9 i0 (.string ByteArray.empty) 1 16 Tryd.underlying22 hi hz0 hz1 hz2 rfl (by decide) _ k _ rfl Hown2.out ⟨wr.heap.size, 0, none⟩ 1 1 [.string (ts[k].extract 0 (min (ts[k].size : Int) 40).toNat)] rfl rfl Hnews.out H1c.out (by unfold maxLen; omega) (by omega) hb2s ?_; intro v' w1 hown1 hgrow)
      all_goals
        have hn1 := owns_snoc hlen (by rw [← hex.out]; exact hown1.out)
        have hb1 := hB2.grown hgrow.out hb2s (fun j hj => (Hown2.out.lt j hj).1)
        rw [← hsnoc.out] at hn1
        clear hown1 hgrow hB2 hm0 hm1 hcell
        go_wp2
        go_roundw
        case rel => exact ⟨k + 1, by omega, by go_num, hn1, hb1⟩
        case measure => simp [intOf]; omega
    · have hkt : k = ts.length := by omega
      have hlen := cut40_length ts k hk
      have hflat := cut40_flat ts k
      obtain ⟨s, x, hup, hrup⟩ := un_fixed (cut40 ts k) (by omega) (by omega)
      have Hup := Lib.hid hup
      have Hrup := Lib.hid hrup
      have Hown := Lib.hid hown
      have hq : (s.toList == s.toList) = true := by simp
      clear hup hrup hown hflat hlen
      by_cases hc3 : (k : Int) < (l : Int)
      · have hc4 : ¬ (k : Int) < 320 := by omega
        go_wp2_with (go_at_call 14; refine (Hup.out _ _ _ Hown.out (HT.out.below hB hg)).mono ?_)
        rintro e W1 ⟨rfl, b1⟩
        have hB1 := below_step hB b1
        have Hown1 := Lib.hid (owns_kept Hown.out b1)
        clear b1
        go_wp2_with (go_at_call 15; refine (Hrup.out _ _ _ Hown1.out).mono ?_)
        rintro e W2 ⟨rfl, b2⟩
        have hB2 := below_step hB1 b2
        have h2 := Lib.hid (HT.out.below hB2 hg)
        clear b2 hB hB1
        go_wp2_with (go_at_call 13; refine (fworks_any _ h2.out).mono ?_)
        rintro e W3 ⟨rfl, b3⟩
        have hB3 := below_step hB2 b3
        go_wp2
        go_ret
        exact ⟨rfl, hB3⟩
      · go_wp2_with (go_at_call 14; refine (Hup.out _ _ _ Hown.out (HT.out.below hB hg)).mono ?_)
        rintro e W1 ⟨rfl, b1⟩
        have hB1 := below_step hB b1
        have Hown1 := Lib.hid (owns_kept Hown.out b1)
        clear b1
        go_wp2_with (go_at_call 15; refine (Hrup.out _ _ _ Hown1.out).mono ?_)
        rintro e W2 ⟨rfl, b2⟩
        have hB2 := below_step hB1 b2
        have h2 := Lib.hid (HT.out.below hB2 hg)
        clear b2 hB hB1
        go_wp2_with (go_at_call 13; refine (fworks_any _ h2.out).mono ?_)
        rintro e W3 ⟨rfl, b3⟩
        have hB3 := below_step hB2 b3
        go_wp2
        go_ret
        exact ⟨rfl, hB3⟩

end Go.Proofs.YtpjjmaknajjimaaDoor
