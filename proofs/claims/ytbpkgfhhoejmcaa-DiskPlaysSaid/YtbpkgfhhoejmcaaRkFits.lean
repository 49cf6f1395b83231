/- What Fits of the document's disk does. -/
import Derived.Test.YtbpkgfhhoejmcaaRkWrite
import Derived.LoopTactic
import Derived.IntWalk
import Derived.OwnWalk
namespace Go.Proofs.Ytbpkgfhhoejmcaa.dk
open Go Go.RowKit

/-- A list of numbers that the call itself made. -/
def intRow (l : List Int) : List Value := l.map fun x => .int .i64 x
def OwnsInts (w : World) (B : Nat) (v : Value) (l : List Int) : Prop := w.ownsRow B 3 1 v l.length (intRow l)
theorem intRow_length (l : List Int) : (intRow l).length = l.length := by simp [intRow]
theorem intRow_snoc (l : List Int) (x : Int) : intRow (l ++ [x]) = intRow l ++ [.int .i64 x] := by simp [intRow]

theorem OwnsInts.view {w : World} {B : Nat} {v : Value} {l : List Int} (h : OwnsInts w B v l) :
    ∃ A c, v = .slice A l.length c ∧ ∀ i (hi : i < l.length), ∃ g, A = some ⟨g, 0, none⟩ ∧ g < w.heap.size ∧ w.cell? ⟨g, i, none⟩ = some (.int .i64 l[i]) := by
  rcases h.2 with ⟨rfl, h0⟩ | ⟨g, cap, cur, rfl, hg, hh, hc, hm, _, _⟩
  · obtain rfl : l = [] := List.length_eq_zero_iff.1 h0
    exact ⟨none, 0, rfl, fun i hi => absurd hi (by simp)⟩
  · have hlt : g < w.heap.size := (Array.getElem?_eq_some_iff.1 hh).1
    refine ⟨some ⟨g, 0, none⟩, cap, rfl, ?_⟩
    intro i hi
    refine ⟨g, rfl, hlt, ?_⟩
    have := World.ownsRow.cellAt h i (by omega)
    rw [this]
    simp [intRow, hi]

theorem ownsI_kept {w w' : World} {B : Nat} {v : Value} {l : List Int} (h : OwnsInts w B v l) (hb : ∀ k, v.ownBlock = some k → w'.heap[k]? = w.heap[k]?) : OwnsInts w' B v l := own_of_block h hb

theorem drewB {B : Nat} {w w' : World} (h : Below B w w') (n : Nat) : Below B w (w'.drewN n) := ⟨h.os, h.tape, h.output, h.size, h.block⟩

theorem fits_not (d : DD) (zs : List Int) (k : Nat) (h : k < zs.length) (hx : d.has zs[k] = false) : d.fits zs = false := by
  unfold DD.fits
  have : zs.all d.has = false := by
    rw [List.all_eq_false]
    exact ⟨zs[k], List.getElem_mem h, by rw [hx]; simp⟩
  rw [this]
  rfl

theorem fresh_step (s : Sects) (acc zs : List Int) (k : Nat) (h : k < zs.length) : fresh s acc (zs.drop k) = if (look s zs[k]).isSome || acc.contains zs[k] then fresh s acc (zs.drop (k + 1)) else fresh s (acc ++ [zs[k]]) (zs.drop (k + 1)) := by
  rw [List.drop_eq_getElem_cons h]
  rfl

theorem all_step (f : Int → Bool) (zs : List Int) (k : Nat) (h : k < zs.length) (h1 : (zs.take k).all f = true) (h2 : f zs[k] = true) : (zs.take (k + 1)).all f = true := by
  rw [List.take_succ_eq_append_getElem h]
  simp only [List.all_append, h1, List.all_cons, h2, List.all_nil, Bool.and_self]

theorem mem_step (acc : List Int) (x : Int) (m : Nat) (h : m < acc.length) (b : Bool) : (b || (acc.take (m + 1)).contains x) = ((b || (acc.take m).contains x) || (acc[m] == x)) := by
  rw [List.take_succ_eq_append_getElem h]
  cases b
  · rw [Bool.eq_iff_iff]
    simp only [Bool.false_or, List.contains_eq_mem, List.mem_append, List.mem_singleton, Bool.or_eq_true, decide_eq_true_eq, beq_iff_eq]
    constructor
    · rintro (h | h)
      · exact .inl h
      · exact .inr h.symm
    · rintro (h | h)
      · exact .inl h
      · exact .inr h.symm
  · simp

def RFitRel (d : DD) (zs : List Int) (w : World) (f i : Value) (wr : World) : Prop :=
  ∃ (k : Nat) (acc : List Int), k ≤ zs.length ∧ i = .int .i64 (k : Int) ∧ Below w.heap.size w wr ∧ OwnsInts wr w.heap.size f acc ∧ acc.length ≤ k ∧ (zs.take k).all d.has = true ∧ fresh d.now acc (zs.drop k) = fresh d.now [] zs

def IntsB (w : World) (A : Option Addr) (l : List Int) : Prop := ∀ i (hi : i < l.length), ∃ g, A = some ⟨g, 0, none⟩ ∧ g < w.heap.size ∧ w.cell? ⟨g, i, none⟩ = some (.int .i64 l[i])

def RInRel (w : World) (acc : List Int) (x : Int) (b : Bool) (A : Option Addr) (f : Value) (W0 : World) (kn j : Value) (wr : World) : Prop :=
  ∃ m : Nat, m ≤ acc.length ∧ j = .int .i64 (m : Int) ∧ kn = .bool (b || (acc.take m).contains x) ∧ Below w.heap.size w wr ∧ OwnsInts wr w.heap.size f acc ∧ IntsB wr A acc ∧ wr.heap = W0.heap

theorem info3 : (Try.prog.info? 3).map (fun i => (i.zero, i.size, i.bytes)) = some (some (.int .i64 0), 1, 8) := by kernel_rfl

theorem fits_end (d : DD) (zs acc : List Int) (h1 : zs.all d.has = true) (h2 : acc = fresh d.now [] zs) : d.fits zs = (decide (acc.length = 0) || decide ((acc.length : Int) ≤ d.room - (d.used : Int))) := by
  unfold DD.fits
  rw [h1, ← h2, Bool.true_and]

theorem one_int (w : World) (x : Int) : ∀ j u, ([Value.int .i64 x] : List Value)[j]? = some u → (w.alloc (.cells #[.int .i64 x] 3)).cell? ((⟨w.heap.size, 0, none⟩ : Addr).add j) = some u := by
  intro j u hu
  rw [addr_add, Nat.zero_add, (Blk.new w 3 #[.int .i64 x]).cell j]
  simpa using hu

theorem cell_heap {w w' : World} (h : w'.heap = w.heap) (a : Addr) : w'.cell? a = w.cell? a := by simp [World.cell?, h]

section
variable {w : World} {own : Nat → Prop} {p gb cb gn cn : Nat} {v : Value} {d : DD}

set_option maxHeartbeats 1600000 in
theorem rfits_any {most : Nat} (h : RkIs most w own p d) (A : Option Addr) (c : Nat) (zs : List Int) (hz : IntsAt w A zs) (hzl : zs.length ≤ 1000000) :
    Calls Try.prog 37 #[.pointer (some ⟨p, 0, none⟩), .slice A zs.length c] w (okB (d.fits zs) w) := by
  obtain ⟨h0, gb, cb, gn, cn, v, hr⟩ := h
  have H0 := Lib.hid h0
  have H1 := Lib.hid hr
  have HZ := Lib.hid hz
  obtain ⟨c0, c1, c2, c3, c4, c5, c6, c7⟩ := blk8 hr.blk
  have C0 := Lib.hid c0
  have C1 := Lib.hid c1
  have C3 := Lib.hid c3
  have C4 := Lib.hid c4
  have hplt := hr.low p hr.op
  have hlen : d.now.length = d.n := d.now_length
  have HLen := Lib.hid hlen
  have hn1 := h0.n1
  clear h0 hr hz c0 c1 c2 c3 c4 c5 c6 c7 hlen
  go_enter Try.func37, Try.ntmps37
  go_wp2_with fail
  go_loopw [5, 6] (fun f i wr => RFitRel d zs w f i wr) (fun _ i _ => zs.length - (intOf i).toNat)
  case atStart => exact ⟨0, [], Nat.zero_le _, rfl, Below.refl _ _, World.ownsRow_nil _ _ _ _, Nat.le_refl _, rfl, rfl⟩
  case round =>
    obtain ⟨w1, hw1⟩ : ∃ x, x = wr := ⟨_, rfl⟩
    subst hw1
    obtain ⟨k, acc, hk, rfl, hB, hO, hac, hall, hfr⟩ := hrel
    have HB := Lib.hid hB
    have HO := Lib.hid hO
    have HAll := Lib.hid hall
    have HFr := Lib.hid hfr
    clear hB hO hall hfr
    have d0 : w1.cell? ⟨p, 0, none⟩ = some (.int .i64 (d.n : Int)) := by rw [HB.out.cell (p := ⟨p, 0, none⟩) hplt]; exact C0.out
    by_cases hlt : k < zs.length
    · obtain ⟨bb, oo, rfl, hbb, hcell0, hx0, hx1⟩ := HZ.out k hlt
      have hcell : w1.cell? ⟨bb, oo + k, none⟩ = some (.int .i64 zs[k]) := by rw [HB.out.cell (p := ⟨bb, oo + k, none⟩) hbb]; exact hcell0
      have hbw : bb < w1.heap.size := Nat.lt_of_lt_of_le hbb HB.out.size
      obtain ⟨x, hx⟩ : ∃ x, zs[k] = x := ⟨_, rfl⟩
      rw [hx] at hcell hx0 hx1
      have HX := Lib.hid hx
      have hk1 : (k : Int) < (zs.length : Int) := by omega
      clear hcell0 hx
      by_cases hneg : x < 0
      · have hf := Lib.hid (fits_not d zs k hlt (by rw [HX.out]; simp [DD.has]; omega))
        go_wp2_with fail
        go_quiet (fail)
        go_wp2_with fail
        go_ret
        exact ⟨by rw [hf.out]; rfl, drewB HB.out _⟩
      · by_cases hbig : (d.n : Int) ≤ x
        · have hf := Lib.hid (fits_not d zs k hlt (by rw [HX.out]; simp [DD.has]; omega))
          have hneg' : decide (x < 0) = false := by simpa using hneg
          go_wp2_with fail
          go_quiet (fail)
          go_wp2_with fail
          go_ret
          exact ⟨by rw [hf.out]; rfl, drewB HB.out _⟩
        · have hh := Lib.hid (show d.has x = true by simp [DD.has]; omega)
          obtain ⟨j, rfl⟩ : ∃ j : Nat, x = (j : Int) := ⟨x.toNat, by omega⟩
          have hjn : j < d.n := by omega
          have hneg' : decide ((j : Int) < 0) = false := by simp
          have hbig' : decide ((d.n : Int) ≤ (j : Int)) = false := by rw [decide_eq_false_iff_not]; omega
          have i0 : (0 : Int) ≤ (j : Int) := by omega
          have i1 : (j : Int) < (d.n : Int) := by omega
          have d3 : w1.cell? ⟨p, 3, none⟩ = some (.slice (some ⟨gn, 0, none⟩) d.n cn) := by rw [HB.out.cell (p := ⟨p, 3, none⟩) hplt]; exact C3.out
          have hn0 := H1.out.now.cell j (by rw [HLen.out]; exact hjn)
          have hn : w1.cell? ⟨gn, j, none⟩ = some (.string (sStr (look d.now (j : Int)))) := by rw [HB.out.cell (p := ⟨gn, j, none⟩) (H1.out.low _ H1.out.on_)]; exact hn0
          have hgw : gn < w1.heap.size := Nat.lt_of_lt_of_le (H1.out.low _ H1.out.on_) HB.out.size
          have he := sStr_some (look d.now (j : Int)) (fun u hu => H0.out.look1 hu)
          obtain ⟨b, hb⟩ : ∃ b, (look d.now (j : Int)).isSome = b := ⟨_, rfl⟩
          rw [hb] at he
          have HBB := Lib.hid hb
          generalize sStr (look d.now (j : Int)) = S at *
          clear hb hn0
          go_wp2_with fail
          go_quiet (fail)
          obtain ⟨n1, hn1⟩ : ∃ n, n = nq := ⟨_, rfl⟩
          subst hn1
          go_wp2_with fail
          go_quiet (fail)
          have HB2 := Lib.hid (drewB (drewB HB.out n1) nq)
          have HW2 : Hid (((w1.drewN n1).drewN nq).heap = w1.heap) := rfl
          have HO2 := Lib.hid (ownsI_kept (w' := (w1.drewN n1).drewN nq) HO.out (fun _ _ => rfl))
          obtain ⟨A', c', hA, hcs⟩ := HO2.out.view
          have HI2 : Hid (IntsB ((w1.drewN n1).drewN nq) A' acc) := hcs
          clear hcs hn d3 hgw he
          generalize (w1.drewN n1).drewN nq = W2 at *
          subst hA
          go_wp2_with fail
          go_loopw [7, 8] (fun kn m ww => RInRel w acc (j : Int) b A' (.slice A' acc.length c') w1 kn m ww) (fun _ m _ => acc.length - (intOf m).toNat)
          case atStart => exact ⟨0, Nat.zero_le _, rfl, by simp, HB2.out, HO2.out, HI2.out, HW2.out⟩
          case round =>
            obtain ⟨m, hm, rfl, rfl, hB3, hO3, hI3, hW3⟩ := hrel
            have HB3 := Lib.hid hB3
            have HO3 := Lib.hid hO3
            have HI3 := Lib.hid hI3
            have HW3 := Lib.hid hW3
            clear hB3 hO3 hI3 hW3 HB2 HO2 HI2 HW2
            obtain ⟨q, hq⟩ : ∃ q, (b || (acc.take m).contains (j : Int)) = q := ⟨_, rfl⟩
            rw [hq]
            have HQ := Lib.hid hq
            clear hq
            by_cases hlm : m < acc.length
            · have hst := mem_step acc (j : Int) m hlm b
              rw [HQ.out] at hst
              have hlm1 : (m : Int) < (acc.length : Int) := by omega
              cases q with
              | true =>
                rw [Bool.true_or] at hst
                have HST := Lib.hid hst
                clear hst
                go_wp2_with fail
                go_quiet (fail)
                go_wp2_with fail
                go_roundw
                case rel => exact ⟨m + 1, by omega, by go_num, by rw [HST.out], drewB HB3.out _, ownsI_kept HO3.out (fun _ _ => rfl), HI3.out, HW3.out⟩
                case measure => simp [intOf]; omega
              | false =>
                rw [Bool.false_or] at hst
                obtain ⟨g, hA, hg, hc⟩ := HI3.out m hlm
                subst hA
                obtain ⟨y, hy⟩ : ∃ y, acc[m] = y := ⟨_, rfl⟩
                rw [hy] at hc hst
                have hcell3 : wr.cell? ⟨bb, oo + k, none⟩ = some (.int .i64 (j : Int)) := (cell_heap HW3.out _).trans hcell
                have hbw3 : bb < wr.heap.size := by rw [HW3.out]; exact hbw
                have HST := Lib.hid hst
                clear hst hy
                go_wp2_with fail
                go_quiet (fail)
                go_wp2_with fail
                go_roundw
                case rel => exact ⟨m + 1, by omega, by go_num, by rw [HST.out], drewB HB3.out _, ownsI_kept HO3.out (fun _ _ => rfl), HI3.out, HW3.out⟩
                case measure => simp [intOf]; omega
            · have hme : m = acc.length := by omega
              have hlm' : ¬ (m : Int) < (acc.length : Int) := by omega
              have hq2 : ((look d.now zs[k]).isSome || acc.contains zs[k]) = q := by
                have h := HQ.out
                rw [hme, List.take_length] at h
                rw [HX.out, HBB.out]
                exact h
              have hs := fresh_step d.now acc zs k hlt
              rw [hq2, HFr.out] at hs
              have HS := Lib.hid hs
              have HA2 := Lib.hid (all_step d.has zs k hlt HAll.out (by rw [HX.out]; exact hh.out))
              have hcell3 : wr.cell? ⟨bb, oo + k, none⟩ = some (.int .i64 (j : Int)) := (cell_heap HW3.out _).trans hcell
              have hbw3 : bb < wr.heap.size := by rw [HW3.out]; exact hbw
              clear hs hq2 hcell hbw
              cases q with
              | true =>
                go_wp2_with fail
                go_roundw
                case rel => exact ⟨k + 1, acc, by omega, by go_num, HB3.out, HO3.out, by omega, HA2.out, HS.out.symm⟩
                case measure => simp [intOf]; omega
              | false =>
                have hb4 : Below w.heap.size w (wr.alloc (.cells #[.int .i64 (j : Int)] 3)) := HB3.out.alloc HB3.out.size _
                have HB4 := Lib.hid hb4
                have HO4 : Hid (OwnsInts (wr.alloc (.cells #[.int .i64 (j : Int)] 3)) w.heap.size (.slice A' acc.length c') acc) := ownsI_kept HO3.out (fun l hl => Below.heap_alloc wr _ l (own_lt HO3.out l hl))
                have hsz4 : w.heap.size ≤ (wr.alloc (.cells #[.int .i64 (j : Int)] 3)).heap.size := hb4.size
                obtain ⟨z0, hi, hz0, hz1, hz2⟩ := info_parts info3
                have HNW := Lib.hid (one_int wr (j : Int))
                clear hb4
                go_wp2_with (at_builtin; refine wpList_append_own _ rfl (.tmp 62) (.tmp 67) 55 rfl w.heap.size 3 z0 (.int .i64 0) 1 8 Try.underlying55 hi hz0 hz1 hz2 rfl (by decide) _ acc.length _ rfl HO4.out ⟨wr.heap.size, 0, none⟩ 1 1 [.int .i64 (j : Int)] rfl rfl HNW.out (fun u hu => by simp only [List.mem_singleton] at hu; subst hu; rfl) ?_ ?_ hsz4 ?_)
                · unfold maxLen; omega
                · omega
                · intro v' w5 hown5 hgrow _
                  have HO5 : Hid (OwnsInts w5 w.heap.size v' (acc ++ [(j : Int)])) := by
                    show w5.ownsRow w.heap.size 3 1 v' (acc ++ [(j : Int)]).length (intRow (acc ++ [(j : Int)]))
                    rw [intRow_snoc, List.length_append]
                    exact hown5
                  have HB5 := Lib.hid (HB4.out.grown hgrow hsz4 (fun l hl => (HO4.out.lt l hl).1))
                  clear hown5 hgrow hi hz0 hz1 hz2 hsz4
                  go_wp2_with fail
                  go_roundw
                  case rel => exact ⟨k + 1, acc ++ [(j : Int)], by omega, by go_num, HB5.out, HO5.out, by simp; omega, HA2.out, by rw [HS.out, HX.out]; rfl⟩
                  case measure => simp [intOf]; omega
    · have hke : k = zs.length := by omega
      have hk1 : ¬ (k : Int) < (zs.length : Int) := by omega
      have hall2 : zs.all d.has = true := by have h := HAll.out; rw [hke, List.take_length] at h; exact h
      have hfr2 : acc = fresh d.now [] zs := by have h := HFr.out; rw [hke, List.drop_length] at h; exact h
      have hend := fits_end d zs acc hall2 hfr2
      have d1 : w1.cell? ⟨p, 1, none⟩ = some (.int .i64 d.room) := by rw [HB.out.cell (p := ⟨p, 1, none⟩) hplt]; exact C1.out
      have d4 : w1.cell? ⟨p, 4, none⟩ = some (.int .i64 (d.used : Int)) := by rw [HB.out.cell (p := ⟨p, 4, none⟩) hplt]; exact C4.out
      obtain ⟨A', c', hA, hcs⟩ := HO.out.view
      subst hA
      have hr0 := H0.out.room0
      have hr1 := H0.out.room1
      have hul : d.used ≤ 1024 := by have := cnt_le d.now; have := HLen.out; unfold DD.used; omega
      clear hcs hall2 hfr2 hke
      by_cases hz0 : acc.length = 0
      · have hz1 : ((acc.length : Int) == 0) = true := by rw [beq_iff_eq]; omega
        have he : d.fits zs = true := by rw [hend, decide_eq_true hz0]; rfl
        have HE := Lib.hid he
        clear he hend hz0
        go_wp2_with fail
        go_quiet (fail)
        go_wp2_with fail
        go_ret
        exact ⟨by rw [HE.out]; rfl, drewB HB.out _⟩
      · have hz1 : ((acc.length : Int) == 0) = false := by rw [beq_eq_false_iff_ne]; omega
        have hwr : IntKind.i64.wrap (d.room - (d.used : Int)) = d.room - (d.used : Int) := IntWalk.i64_in _ (by omega)
        have he : d.fits zs = decide ((acc.length : Int) ≤ d.room - (d.used : Int)) := by rw [hend, decide_eq_false hz0]; rfl
        have HE := Lib.hid he
        clear he hend hz0
        go_wp2_with fail
        go_quiet (fail)
        go_wp2_with fail
        go_ret
        exact ⟨by rw [HE.out]; rfl, drewB HB.out _⟩
end
end Go.Proofs.Ytbpkgfhhoejmcaa.dk
