/- The walks of SpaceCounts and SpaceTakes. -/
import Derived.Test.YtpeeoaogklkjlaaSpHyp
import Derived.Test.YtpeeoaogklkjlaaSpRefC
namespace Go.Proofs.Ytpeeoaogklkjlaa.sp
open Go Go.RowKit Go.ChangeShapes Go.WideShapes Go.Proofs.Ytpeeoaogklkjlaa.ib
set_option maxRecDepth 100000

theorem sCounts_len (zss : List (List Int)) (n : Int) : (sCounts zss n).1.length ≤ 1024 := by
  unfold sCounts
  split
  · simp
  · split
    · simp
    · rename_i h
      rw [cnts_len h, List.length_replicate]
      omega
theorem sTake_len (cs : List Int) (n : Int) : (sTake cs n).1.length ≤ cs.length := by
  unfold sTake
  split
  · simp
  · split
    · simp
    · have := frees_len cs cs.length
      simp only [List.length_take]
      omega

set_option maxHeartbeats 1600000 in
theorem spaceCounts_walk (HC : HCounts) (HT : HTake) (HF : HFree) (A : Option Addr) (c : Nat) (zss : List (List Int)) (n : Int) (hn : (Lit.int .i64 n).wf = true) (w : World) (hl24 : zss.length * 24 ≤ 140737488351232) (hnil : A = none → zss.length = 0 ∧ c = 0) (hT : ImsAt w A zss) :
    Calls Try.prog 3 #[.slice A zss.length c, .int .i64 n] w (okB true w) := by
  have hl : zss.length ≤ 9223372036854775807 := by omega
  clear hl24 hnil
  have hnb : i64B n := bounds_i64 hn
  have hc1 := HC A c zss n w hT hl hnb
  have hlen := sCounts_len zss n
  have hrc := fun W (h : ImsAt W A zss) => rcounts_any A c zss n W h hl hnb
  generalize sCounts zss n = r at *
  obtain ⟨l, ee⟩ := r
  have HC1 := Lib.hid hc1
  have HR := Lib.hid hrc
  have HT0 := Lib.hid hT
  have HW := Lib.hid (fun W => works_any HC HT HF W)
  clear hc1 hrc hT HC HT HF hn hnb
  dsimp only at hlen
  go_enter Try.func3, Try.ntmps3
  go_wp2_with fail
  refine HC1.out.mono ?_
  rintro e W1 ⟨A1, c1, rfl, hI1, b1, _, _⟩
  have HI1 := Lib.hid hI1
  have HB1 := Lib.hid b1
  clear hI1 b1
  dsimp only
  go_wp2_with fail
  refine (HR.out W1 (HT0.out.below HB1.out)).mono ?_
  rintro e W2 ⟨A2, c2, rfl, hI2, b2, _, _⟩
  have HI2 := Lib.hid hI2
  have HI1' := Lib.hid (HI1.out.below b2)
  have HB2 := Lib.hid (below_step HB1.out b2)
  clear hI2 b2
  dsimp only
  go_wp2_with fail
  refine (rints_any A1 A2 c1 c2 l l W2 HI1'.out HI2.out (by omega)).mono ?_
  rintro e W3 ⟨rfl, b3⟩
  have HB3 := Lib.hid (below_step HB2.out b3)
  rw [decide_eq_true (rfl : l = l)]
  have hee : (ee == ee) = true := by simp
  clear b3
  go_wp2_with fail
  refine (HW.out W3).mono ?_
  rintro e W4 ⟨rfl, b4⟩
  have HB4 := Lib.hid (below_step HB3.out b4)
  clear b4
  go_wp2_with fail
  go_ret
  exact ⟨rfl, HB4.out⟩

set_option maxHeartbeats 1600000 in
theorem spaceTakes_walk (HC : HCounts) (HT : HTake) (HF : HFree) (A : Option Addr) (c : Nat) (cs : List Int) (n : Int) (hn : (Lit.int .i64 n).wf = true) (w : World) (hl8 : cs.length * 8 ≤ 140737488351232) (hT : IntsAt w A cs) :
    Calls Try.prog 4 #[.slice A cs.length c, .int .i64 n] w (okB true w) := by
  have hl : cs.length * 8 ≤ 140737488355328 := by omega
  clear hl8
  have hnb : i64B n := bounds_i64 hn
  have hc1 := HT A c cs n w hT hl hnb
  have hlen := sTake_len cs n
  have hrc := fun W (h : IntsAt W A cs) => rtake_any A c cs n W h hl
  have hfr := fun W (h : IntsAt W A cs) => HF A c cs W h (by omega)
  have hrf := fun W (h : IntsAt W A cs) => rfree_any A c cs W h (by omega)
  generalize sTake cs n = r at *
  generalize sFree cs = f at *
  obtain ⟨l, ee⟩ := r
  have HC1 := Lib.hid hc1
  have HR := Lib.hid hrc
  have HFR := Lib.hid hfr
  have HRF := Lib.hid hrf
  have HT0 := Lib.hid hT
  have HW := Lib.hid (fun W => works_any HC HT HF W)
  clear hc1 hrc hfr hrf hT HC HT HF hn hnb
  dsimp only at hlen
  go_enter Try.func4, Try.ntmps4
  go_wp2_with fail
  refine HC1.out.mono ?_
  rintro e W1 ⟨A1, c1, rfl, hI1, b1, _, _⟩
  have HI1 := Lib.hid hI1
  have HB1 := Lib.hid b1
  clear hI1 b1
  dsimp only
  go_wp2_with fail
  refine (HR.out W1 (HT0.out.below HB1.out)).mono ?_
  rintro e W2 ⟨A2, c2, rfl, hI2, b2, _, _⟩
  have HI2 := Lib.hid hI2
  have HI1' := Lib.hid (HI1.out.below b2)
  have HB2 := Lib.hid (below_step HB1.out b2)
  clear hI2 b2
  dsimp only
  go_wp2_with fail
  refine (rints_any A1 A2 c1 c2 l l W2 HI1'.out HI2.out (by omega)).mono ?_
  rintro e W3 ⟨rfl, b3⟩
  have HB3 := Lib.hid (below_step HB2.out b3)
  rw [decide_eq_true (rfl : l = l)]
  have hee : (ee == ee) = true := by simp
  have hff : ((f : Int) == (f : Int)) = true := by simp
  clear b3
  go_wp2_with fail
  refine (HFR.out W3 (HT0.out.below HB3.out)).mono ?_
  rintro e W4 ⟨rfl, b4⟩
  have HB4 := Lib.hid (below_step HB3.out b4)
  clear b4
  go_wp2_with fail
  refine (HRF.out W4 (HT0.out.below HB4.out)).mono ?_
  rintro e _ ⟨rfl, rfl⟩
  go_wp2_with fail
  refine (HW.out W4).mono ?_
  rintro e W5 ⟨rfl, b5⟩
  have HB5 := Lib.hid (below_step HB4.out b5)
  clear b5
  go_wp2_with fail
  go_ret
  exact ⟨rfl, HB5.out⟩
end Go.Proofs.Ytpeeoaogklkjlaa.sp
