/- The walks of ImageChecks and ImageDiffs. -/
import Derived.Test.YtadobhfmhcaofaaImHyp
namespace Go.Proofs.Ytadobhfmhcaofaa.im
open Go Go.RowKit Go.ChangeShapes Go.WideShapes Go.Proofs.Ytadobhfmhcaofaa.ib
set_option maxRecDepth 100000

/-- A list of one's own, as a list. -/
theorem own_new (A : Option Addr) (c : Nat) (l : List Int) (w : World) (hl : (l.length ≤ 9223372036854775807 ∧ l.length ≤ c) ∧ (A = none → l.length = 0 ∧ c = 0)) (hp : IntsAt w A l) :
    Calls Try.prog 9 #[.slice A l.length c] w (endL (l.take 60) w) := by
  refine (own_any A c l w hp hl.1.1 hl.1.2 hl.2).mono ?_
  rintro e w' ⟨v, rfl, ho, hb⟩
  exact endL_owned ho (fun z hz => hp.mem z (List.mem_of_mem_take hz)) hb rfl

set_option maxHeartbeats 1600000 in
theorem imageChecks_walk (HC : HCheck) (HD : HDiff) (HW : HWith) (A : Option Addr) (c : Nat) (l : List Int) (b : Int) (hb : (Lit.int .i64 b).wf = true) (n : Int) (hn : (Lit.int .i64 n).wf = true) (w : World)
    (hl : (l.length ≤ 9223372036854775807 ∧ l.length ≤ c) ∧ (A = none → l.length = 0 ∧ c = 0)) (hT : IntsAt w A l) :
    Calls Try.prog 3 #[.slice A l.length c, .int .i64 b, .int .i64 n] w (endB true w) := by
  have HO := Lib.hid (own_new A c l w hl hT)
  have hbb : i64B b := bounds_i64 hb
  have hnb : i64B n := bounds_i64 hn
  have HWK := Lib.hid (fun W => works_any HC HD HW W)
  have HC' := Lib.hid HC
  have HNB := Lib.hid hnb
  have HBB := Lib.hid hbb
  have hl60 : (l.take 60).length ≤ 60 := by rw [List.length_take]; omega
  clear hl hT HC HD HW hb hn hbb hnb
  go_enter Try.func3, Try.ntmps3
  go_wp2_with fail
  refine HO.out.mono ?_
  rintro e W1 ⟨A1, c1, rfl, hn1, b1⟩
  have S1 := Lib.hid hn1.sl
  have B1 := Lib.hid b1
  clear hn1 b1 HO
  generalize l.take 60 = z at *
  dsimp only
  have hzi : i64B (z.length : Int) := by unfold i64B; omega
  have HZI := Lib.hid hzi
  obtain ⟨r1, hr1⟩ : ∃ r, iCheck z b n = r := ⟨_, rfl⟩
  obtain ⟨r2, hr2⟩ : ∃ r, iCheck z z.length n = r := ⟨_, rfl⟩
  have C1 := Lib.hid (fun W (h : SlAt W A1 z c1) => HC'.out A1 c1 z b n W h (by omega) HBB.out HNB.out)
  have C2 := Lib.hid (fun W (h : SlAt W A1 z c1) => rcheck_any A1 c1 z b n W h.ints (by omega))
  have C3 := Lib.hid (fun W (h : SlAt W A1 z c1) => HC'.out A1 c1 z z.length n W h (by omega) HZI.out HNB.out)
  have C4 := Lib.hid (fun W (h : SlAt W A1 z c1) => rcheck_any A1 c1 z z.length n W h.ints (by omega))
  rw [hr1] at C1 C2
  rw [hr2] at C3 C4
  have hq1 : (r1 == r1) = true := by simp
  have hq2 : (r2 == r2) = true := by simp
  clear hr1 hr2 hzi
  go_wp2_with fail
  refine (C1.out W1 S1.out).mono ?_
  rintro e W2 ⟨rfl, b2⟩
  have S2 := Lib.hid (S1.out.below b2)
  have B2 := Lib.hid (below_step B1.out b2)
  clear b2
  go_wp2_with fail
  refine (C2.out W2 S2.out).mono ?_
  rintro e W3 ⟨rfl, b3⟩
  have S3 := Lib.hid (S2.out.below b3)
  have B3 := Lib.hid (below_step B2.out b3)
  clear b3
  go_wp2_with fail
  refine (C3.out W3 S3.out).mono ?_
  rintro e W4 ⟨rfl, b4⟩
  have S4 := Lib.hid (S3.out.below b4)
  have B4 := Lib.hid (below_step B3.out b4)
  clear b4
  go_wp2_with fail
  refine (C4.out W4 S4.out).mono ?_
  rintro e W5 ⟨rfl, b5⟩
  have B5 := Lib.hid (below_step B4.out b5)
  clear b5
  go_wp2_with fail
  refine (HWK.out W5).mono ?_
  rintro e W6 ⟨rfl, b6⟩
  have B6 := Lib.hid (below_step B5.out b6)
  clear b6
  go_wp2_with fail
  go_ret
  exact ⟨rfl, B6.out⟩

set_option maxHeartbeats 1600000 in
theorem imageDiffs_walk (HC : HCheck) (HD : HDiff) (HW : HWith) (A : Option Addr) (c : Nat) (p : List Int) (B : Option Addr) (c' : Nat) (q : List Int) (w : World)
    (hl : (p.length ≤ 9223372036854775807 ∧ p.length ≤ c) ∧ (A = none → p.length = 0 ∧ c = 0)) (hT : IntsAt w A p) (hl' : (q.length ≤ 9223372036854775807 ∧ q.length ≤ c') ∧ (B = none → q.length = 0 ∧ c' = 0)) (hT' : IntsAt w B q) :
    Calls Try.prog 4 #[.slice A p.length c, .slice B q.length c'] w (endB true w) := by
  have HO := Lib.hid (own_new A c p w hl hT)
  have HO2 := Lib.hid (fun W (h : Below w.heap.size w W) => own_new B c' q W hl' (hT'.below h))
  have HWK := Lib.hid (fun W => works_any HC HD HW W)
  have HD' := Lib.hid HD
  have hl60 : (p.take 60).length ≤ 60 := by rw [List.length_take]; omega
  have hl61 : (q.take 60).length ≤ 60 := by rw [List.length_take]; omega
  clear hl hT hl' hT' HC HD HW
  go_enter Try.func4, Try.ntmps4
  go_wp2_with fail
  refine HO.out.mono ?_
  rintro e W1 ⟨A1, c1, rfl, hn1, b1⟩
  have S1 := Lib.hid hn1.sl
  have B1 := Lib.hid b1
  clear hn1 b1 HO
  generalize p.take 60 = x at *
  dsimp only
  go_wp2_with fail
  refine (HO2.out W1 B1.out).mono ?_
  rintro e W2 ⟨A2, c2, rfl, hn2, b2⟩
  have S2 := Lib.hid hn2.sl
  have S1b := Lib.hid (S1.out.below b2)
  have B2 := Lib.hid (below_step B1.out b2)
  clear hn2 b2 HO2 S1 B1
  generalize q.take 60 = y at *
  dsimp only
  have hdl := iDiff_len x y
  have C1 := Lib.hid (fun W (h : SlAt W A1 x c1) (h' : SlAt W A2 y c2) => HD'.out A1 A2 c1 c2 x y W h h' (by omega) (by omega))
  have C2 := Lib.hid (fun W (h : SlAt W A1 x c1) (h' : SlAt W A2 y c2) => rdiff_any A1 A2 c1 c2 x y W h.ints h'.ints (by omega) (by omega))
  generalize iDiff x y = d at *
  go_wp2_with fail
  refine (C1.out W2 S1b.out S2.out).mono ?_
  rintro e W3 ⟨A3, c3, rfl, hn3, b3⟩
  have S3 := Lib.hid hn3.sl
  have S1c := Lib.hid (S1b.out.below b3)
  have S2c := Lib.hid (S2.out.below b3)
  have B3 := Lib.hid (below_step B2.out b3)
  clear hn3 b3 S1b S2 B2
  go_wp2_with fail
  refine (C2.out W3 S1c.out S2c.out).mono ?_
  rintro e W4 ⟨A4, c4, rfl, hn4, b4⟩
  have S4 := Lib.hid hn4.sl
  have S3d := Lib.hid (S3.out.below b4)
  have B4 := Lib.hid (below_step B3.out b4)
  clear hn4 b4 S1c S2c B3 S3
  go_wp2_with fail
  refine (rints_any A3 A4 c3 c4 d d W4 S3d.out.ints S4.out.ints (by omega)).mono ?_
  rintro e W5 ⟨rfl, b5⟩
  rw [decide_eq_true (rfl : d = d)]
  have B5 := Lib.hid (below_step B4.out b5)
  clear b5
  go_wp2_with fail
  refine (HWK.out W5).mono ?_
  rintro e W6 ⟨rfl, b6⟩
  have B6 := Lib.hid (below_step B5.out b6)
  clear b6
  go_wp2_with fail
  go_ret
  exact ⟨rfl, B6.out⟩
end Go.Proofs.Ytadobhfmhcaofaa.im
