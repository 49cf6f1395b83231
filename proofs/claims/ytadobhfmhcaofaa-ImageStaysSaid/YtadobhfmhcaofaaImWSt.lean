/- The walk of ImageStays. -/
import Derived.Test.YtadobhfmhcaofaaImW1
import Derived.Test.YtadobhfmhcaofaaImStay
namespace Go.Proofs.Ytadobhfmhcaofaa.im
open Go Go.RowKit Go.ChangeShapes Go.WideShapes Go.Proofs.Ytadobhfmhcaofaa.ib
set_option maxRecDepth 100000

def TwRel (l : List Int) (b s : Int) (w : World) (v i : Value) (wr : World) : Prop := ∃ k : Nat, k ≤ l.length ∧ i = .int .i64 (k : Int) ∧ v = .bool (twTo l b s k) ∧ w = wr

set_option maxHeartbeats 6400000 in
theorem imageStays_walk (HC : HCheck) (HD : HDiff) (HW : HWith) (A : Option Addr) (c : Nat) (p : List Int) (n : Int) (hn : (Lit.int .i64 n).wf = true) (b s : Int) (hb : -9223372036854775808 ≤ b ∧ b ≤ 9223372036854775807) (hs : -9223372036854775808 ≤ s ∧ s ≤ 9223372036854775807) (w : World)
    (hl : (p.length ≤ 9223372036854775807 ∧ p.length ≤ c) ∧ (A = none → p.length = 0 ∧ c = 0)) (hT : IntsAt w A p) :
    Calls Try.prog 7 #[.slice A p.length c, .int .i64 n, .agg #[.int .i64 b, .int .i64 s]] w (endB true w) := by
  have HWK := Lib.hid (fun W => works_any HC HD HW W)
  have HC' := Lib.hid HC
  have HW' := Lib.hid HW
  have HNB := Lib.hid (bounds_i64 hn : i64B n)
  have HBB : Hid (i64B b) := hb
  have HSB : Hid (i64B s) := hs
  have hl60 : (p.take 60).length ≤ 60 := by rw [List.length_take]; omega
  have kb := Blk.new w 35 #[.int .i64 b, .int .i64 s]
  have bb := (Below.refl w.heap.size w).alloc (Nat.le_refl _) (.cells #[.int .i64 b, .int .i64 s] 35)
  have HO := Lib.hid (own_new A c p (w.alloc (.cells #[.int .i64 b, .int .i64 s] 35)) hl (hT.below bb))
  obtain ⟨W0, hW0⟩ : ∃ x, w.alloc (.cells #[.int .i64 b, .int .i64 s] 35) = x := ⟨_, rfl⟩
  rw [hW0] at kb bb HO
  have KB := Lib.hid kb
  have BB := Lib.hid bb
  clear hl hT HC HD HW hn kb bb
  go_enter Try.func7, Try.ntmps7
  go_wp2_with fail
  refine HO.out.mono ?_
  rintro e W1 ⟨A1, c1, rfl, hn1, b1⟩
  have S1 := Lib.hid hn1.sl
  have B1 := Lib.hid (BB.out.trans (b1.mono BB.out.size))
  have KB1 := KB.out.below b1
  have q0 : W1.cell? ⟨w.heap.size, 0, none⟩ = some (.int .i64 b) := KB1.cell 0
  have q1 : W1.cell? ⟨w.heap.size, 1, none⟩ = some (.int .i64 s) := KB1.cell 1
  have lk := KB1.lt
  clear hn1 b1 HO BB KB KB1 hW0
  generalize p.take 60 = l at *
  dsimp only
  obtain ⟨g, hg⟩ : ∃ x, w.heap.size = x := ⟨_, rfl⟩
  have HG := Lib.hid hg
  rw [hg] at q0 q1 lk ⊢
  clear hg
  obtain ⟨y, hy⟩ : ∃ y, (if (1024 : Int) < n then (1024 : Int) else n) = y := ⟨_, rfl⟩
  have hy1 : y ≤ 1024 := by rw [← hy]; split <;> omega
  obtain ⟨N, hN⟩ : ∃ N, (if (0 : Int) < y then y else 0) = N := ⟨_, rfl⟩
  have hN0 : 0 ≤ N ∧ N ≤ 1024 := by rw [← hN]; split <;> omega
  have HN0 : Hid (i64B N) := by unfold Hid i64B; omega
  have HLB : Hid (i64B (l.length : Int)) := by unfold Hid i64B; omega
  have HLI := Lib.hid S1.out.ints.mem
  go_wp2_with fail
  go_quiet (fail)
  go_wp2_with fail
  clear hy hN
  have S2 : Hid (SlAt (W1.drewN nq) A1 l c1) := ⟨S1.out.ints, S1.out.cap, S1.out.nil⟩
  have B2 : Hid (Below w.heap.size w (W1.drewN nq)) := ⟨B1.out.os, B1.out.tape, B1.out.output, B1.out.size, B1.out.block⟩
  obtain ⟨W2, hW2⟩ : ∃ x, W1.drewN nq = x := ⟨_, rfl⟩
  rw [hW2] at S2 B2 ⊢
  clear hW2 q0 q1 lk S1 B1
  have hcall := HC'.out A1 c1 l l.length N W2 S2.out (by omega) HLB.out HN0.out
  obtain ⟨r, hr⟩ : ∃ r, iCheck l l.length N = r := ⟨_, rfl⟩
  rw [hr] at hcall
  refine hcall.mono ?_
  clear hcall
  rintro e W3 ⟨rfl, b3⟩
  have S3 := Lib.hid (S2.out.below b3)
  have B3 := Lib.hid (below_step B2.out b3)
  clear b3 S2 B2
  have HR := Lib.hid hr
  clear hr
  by_cases hr0 : r = 0
  · subst hr0
    go_wp2_with fail
    have hcall := HW'.out A1 c1 l b s W3 S3.out (by omega) HBB.out HSB.out
    obtain ⟨res, hres⟩ : ∃ r, iWith l b s = r := ⟨_, rfl⟩
    rw [hres] at hcall
    by_cases hbad : b < 0 ∨ (l.length : Int) ≤ b ∨ s < 0
    · unfold iWith at hres
      rw [if_pos hbad] at hres
      subst hres
      refine hcall.mono ?_
      clear hcall
      rintro e W4 ⟨A4, c4, rfl, _, b4⟩
      have B4 := Lib.hid (below_step B3.out b4)
      clear b4
      dsimp only [List.length_nil]
      by_cases h1 : b < 0
      · go_wp2_with fail
        refine (HWK.out W4).mono ?_
        rintro e WZ ⟨rfl, bz⟩
        have BZ := Lib.hid (below_step B4.out bz)
        clear bz
        go_wp2_with fail
        go_ret
        exact ⟨rfl, BZ.out⟩
      · by_cases h2 : (l.length : Int) ≤ b
        · go_wp2_with fail
          refine (HWK.out W4).mono ?_
          rintro e WZ ⟨rfl, bz⟩
          have BZ := Lib.hid (below_step B4.out bz)
          clear bz
          go_wp2_with fail
          go_ret
          exact ⟨rfl, BZ.out⟩
        · have h3 : s < 0 := by omega
          go_wp2_with fail
          refine (HWK.out W4).mono ?_
          rintro e WZ ⟨rfl, bz⟩
          have BZ := Lib.hid (below_step B4.out bz)
          clear bz
          go_wp2_with fail
          go_ret
          exact ⟨rfl, BZ.out⟩
    · unfold iWith at hres
      rw [if_neg hbad] at hres
      obtain ⟨t, rfl⟩ := Int.eq_ofNat_of_zero_le (show 0 ≤ b by omega)
      rw [Int.toNat_natCast] at hres
      subst hres
      have htl : t < l.length := by omega
      have hs0 : ¬ s < 0 := by omega
      have HST := Lib.hid (stays HR.out htl s)
      obtain ⟨n1, hn1⟩ : ∃ x, l.set t s = x := ⟨_, rfl⟩
      have hnl : n1.length = l.length := by rw [← hn1, List.length_set]
      have HNL := Lib.hid hnl
      rw [hn1] at hcall HST
      clear hn1 hnl hbad
      refine hcall.mono ?_
      clear hcall
      rintro e W4 ⟨A4, c4, rfl, hn4, b4⟩
      dsimp only at hn4
      have S4 := Lib.hid hn4.sl
      have S3b := Lib.hid (S3.out.below b4)
      have B4 := Lib.hid (below_step B3.out b4)
      clear hn4 b4 S3 B3
      dsimp only
      rw [HNL.out]
      go_wp2_with fail
      go_loopw [12, 13] (fun v i wr => TwRel l (t : Int) s W4 v i wr) (fun _ i _ => l.length - (intOf i).toNat)
      case atStart => exact ⟨0, Nat.zero_le _, rfl, rfl, rfl⟩
      case round =>
        obtain ⟨k, hk, rfl, rfl, rfl⟩ := hrel
        have HTS := Lib.hid (twTo_succ l (t : Int) s k)
        by_cases hlt : k < l.length
        · have hklt : (k : Int) < (l.length : Int) := by omega
          obtain ⟨bz, oz, rfl, hbl, hc, hz⟩ := S3b.out.ints k hlt
          rw [pl_at hlt] at HTS
          generalize l[k] = x at *
          generalize htw : twTo l (t : Int) s k = tw at *
          clear htw
          cases tw with
          | true =>
            have HS2 : Hid (twTo l (t : Int) s (k + 1) = true) := by unfold Hid; rw [HTS.out]; rfl
            clear HTS
            go_wp2_with fail
            go_roundw
            case rel => exact ⟨k + 1, by omega, by go_num, by rw [HS2.out], rfl⟩
            case measure => simp [intOf]; omega
          | false =>
            by_cases hkt : k = t
            · have hkb : ((k : Int) != (t : Int)) = false := by rw [hkt]; simp
              have HS2 : Hid (twTo l (t : Int) s (k + 1) = false) := by unfold Hid; rw [HTS.out, hkt]; simp
              clear HTS hkt
              go_wp2_with fail
              go_roundw
              case rel => exact ⟨k + 1, by omega, by go_num, by rw [HS2.out], rfl⟩
              case measure => simp [intOf]; omega
            · have hkb : ((k : Int) != (t : Int)) = true := by simp; omega
              by_cases hxs : x = s
              · have hxb : (x == s) = true := by simpa using hxs
                by_cases hsz : s = 0
                · have hsb : (s != 0) = false := by rw [hsz]; simp
                  have HS2 : Hid (twTo l (t : Int) s (k + 1) = false) := by unfold Hid; rw [HTS.out, hsz]; simp
                  clear HTS hxs hsz hkt
                  go_wp2_with fail
                  go_roundw
                  case rel => exact ⟨k + 1, by omega, by go_num, by rw [HS2.out], rfl⟩
                  case measure => simp [intOf]; omega
                · have hsb : (s != 0) = true := by simpa using hsz
                  have HS2 : Hid (twTo l (t : Int) s (k + 1) = true) := by
                    unfold Hid
                    rw [HTS.out, decide_eq_true hxs, decide_eq_true (show (k : Int) ≠ (t : Int) by omega), decide_eq_true (show s ≠ 0 from hsz)]
                    rfl
                  clear HTS hxs hsz hkt
                  go_wp2_with fail
                  go_roundw
                  case rel => exact ⟨k + 1, by omega, by go_num, by rw [HS2.out], rfl⟩
                  case measure => simp [intOf]; omega
              · have hxb : (x == s) = false := by simpa using hxs
                have HS2 : Hid (twTo l (t : Int) s (k + 1) = false) := by unfold Hid; rw [HTS.out, decide_eq_false hxs]; simp
                clear HTS hxs hkt
                go_wp2_with fail
                go_roundw
                case rel => exact ⟨k + 1, by omega, by go_num, by rw [HS2.out], rfl⟩
                case measure => simp [intOf]; omega
        · have hklt : ¬ (k : Int) < (l.length : Int) := by omega
          have hke : k = l.length := by omega
          have HCN : Hid (∀ W, SlAt W A4 n1 c4 → Calls Try.prog 10 #[.slice A4 l.length c4, .int .i64 (l.length : Int), .int .i64 N] W (endI (wantS s N (twTo l (t : Int) s k)) W)) := fun W h => by
            rw [hke, ← HST.out, ← HNL.out]
            exact HC'.out A4 c4 n1 n1.length N W h (by rw [HNL.out]; omega) (by rw [HNL.out]; exact HLB.out) HN0.out
          clear hke HTS HST
          generalize twTo l (t : Int) s k = tw at *
          by_cases hsz : s = 0
          · have hsb : (s != 0) = false := by rw [hsz]; simp
            cases tw with
            | true =>
              have HWT : Hid (wantS s N true = 16) := by unfold Hid wantS; rw [if_neg (fun h => h.1 hsz)]; rfl
              clear hsz
              go_wp2_with fail
              refine (HCN.out W4 S4.out).mono ?_
              rintro e W6 ⟨rfl, b6⟩
              rw [HWT.out]
              have B6 := Lib.hid (below_step B4.out b6)
              clear b6
              go_wp2_with fail
              refine (HWK.out W6).mono ?_
              rintro e WZ ⟨rfl, bz⟩
              have BZ := Lib.hid (below_step B6.out bz)
              clear bz
              go_wp2_with fail
              go_ret
              exact ⟨rfl, BZ.out⟩
            | false =>
              have HWT : Hid (wantS s N false = 0) := by unfold Hid wantS; rw [if_neg (fun h => h.1 hsz)]; rfl
              clear hsz
              go_wp2_with fail
              refine (HCN.out W4 S4.out).mono ?_
              rintro e W6 ⟨rfl, b6⟩
              rw [HWT.out]
              have B6 := Lib.hid (below_step B4.out b6)
              clear b6
              go_wp2_with fail
              refine (HWK.out W6).mono ?_
              rintro e WZ ⟨rfl, bz⟩
              have BZ := Lib.hid (below_step B6.out bz)
              clear bz
              go_wp2_with fail
              go_ret
              exact ⟨rfl, BZ.out⟩
          · have hsb : (s != 0) = true := by simpa using hsz
            by_cases hlow : s < 193
            · have HWT : Hid (wantS s N tw = 2) := by unfold Hid wantS; rw [if_pos ⟨hsz, .inl hlow⟩]
              clear hsz
              go_wp2_with fail
              refine (HCN.out W4 S4.out).mono ?_
              rintro e W6 ⟨rfl, b6⟩
              rw [HWT.out]
              have B6 := Lib.hid (below_step B4.out b6)
              clear b6
              go_wp2_with fail
              refine (HWK.out W6).mono ?_
              rintro e WZ ⟨rfl, bz⟩
              have BZ := Lib.hid (below_step B6.out bz)
              clear bz
              go_wp2_with fail
              go_ret
              exact ⟨rfl, BZ.out⟩
            · by_cases hge : N ≤ s
              · have HWT : Hid (wantS s N tw = 2) := by unfold Hid wantS; rw [if_pos ⟨hsz, .inr hge⟩]
                clear hsz
                go_wp2_with fail
                refine (HCN.out W4 S4.out).mono ?_
                rintro e W6 ⟨rfl, b6⟩
                rw [HWT.out]
                have B6 := Lib.hid (below_step B4.out b6)
                clear b6
                go_wp2_with fail
                refine (HWK.out W6).mono ?_
                rintro e WZ ⟨rfl, bz⟩
                have BZ := Lib.hid (below_step B6.out bz)
                clear bz
                go_wp2_with fail
                go_ret
                exact ⟨rfl, BZ.out⟩
              · cases tw with
                | true =>
                  have HWT : Hid (wantS s N true = 16) := by unfold Hid wantS; rw [if_neg (by omega)]; rfl
                  clear hsz
                  go_wp2_with fail
                  refine (HCN.out W4 S4.out).mono ?_
                  rintro e W6 ⟨rfl, b6⟩
                  rw [HWT.out]
                  have B6 := Lib.hid (below_step B4.out b6)
                  clear b6
                  go_wp2_with fail
                  refine (HWK.out W6).mono ?_
                  rintro e WZ ⟨rfl, bz⟩
                  have BZ := Lib.hid (below_step B6.out bz)
                  clear bz
                  go_wp2_with fail
                  go_ret
                  exact ⟨rfl, BZ.out⟩
                | false =>
                  have HWT : Hid (wantS s N false = 0) := by unfold Hid wantS; rw [if_neg (by omega)]; rfl
                  clear hsz
                  go_wp2_with fail
                  refine (HCN.out W4 S4.out).mono ?_
                  rintro e W6 ⟨rfl, b6⟩
                  rw [HWT.out]
                  have B6 := Lib.hid (below_step B4.out b6)
                  clear b6
                  go_wp2_with fail
                  refine (HWK.out W6).mono ?_
                  rintro e WZ ⟨rfl, bz⟩
                  have BZ := Lib.hid (below_step B6.out bz)
                  clear bz
                  go_wp2_with fail
                  go_ret
                  exact ⟨rfl, BZ.out⟩
  · have hrb : (r != 0) = true := by simpa using hr0
    go_wp2_with fail
    refine (HWK.out W3).mono ?_
    rintro e WZ ⟨rfl, bz⟩
    have BZ := Lib.hid (below_step B3.out bz)
    clear bz
    go_wp2_with fail
    go_ret
    exact ⟨rfl, BZ.out⟩
end Go.Proofs.Ytadobhfmhcaofaa.im
