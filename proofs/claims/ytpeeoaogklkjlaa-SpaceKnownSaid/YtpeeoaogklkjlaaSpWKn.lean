/- The walk of SpaceKnown. -/
import Derived.Test.YtpeeoaogklkjlaaSpHyp
namespace Go.Proofs.Ytpeeoaogklkjlaa.sp
open Go Go.RowKit Go.Proofs.Ytpeeoaogklkjlaa.ib
set_option maxRecDepth 100000

theorem lit2 (W : World) (x y : List Int) (hx : ∀ z ∈ x, i64B z) (hy : ∀ z ∈ y, i64B z) (lx : x.length ≤ 9223372036854775807) (ly : y.length ≤ 9223372036854775807) :
    ImsAt (((W.alloc (.cells (icells x) 3)).alloc (.cells (icells y) 3)).alloc (.cells #[.slice (some ⟨W.heap.size, 0, none⟩) x.length x.length, .slice (some ⟨W.heap.size + 1, 0, none⟩) y.length y.length] 23)) (some ⟨W.heap.size + 1 + 1, 0, none⟩) [x, y] ∧
    Below W.heap.size W (((W.alloc (.cells (icells x) 3)).alloc (.cells (icells y) 3)).alloc (.cells #[.slice (some ⟨W.heap.size, 0, none⟩) x.length x.length, .slice (some ⟨W.heap.size + 1, 0, none⟩) y.length y.length] 23)) := by
  have hw1 := ints_new W x hx
  have hb1 := (Below.refl W.heap.size W).alloc (Nat.le_refl _) (.cells (icells x) 3)
  have hw2 := ints_new (W.alloc (.cells (icells x) 3)) y hy
  have hb2 := (Below.refl _ (W.alloc (.cells (icells x) 3))).alloc (Nat.le_refl _) (.cells (icells y) 3)
  have e1 : (W.alloc (.cells (icells x) 3)).heap.size = W.heap.size + 1 := by simp
  have e2 : ((W.alloc (.cells (icells x) 3)).alloc (.cells (icells y) 3)).heap.size = W.heap.size + 1 + 1 := by simp
  rw [e1] at hw2
  have hi3 := ims_new ((W.alloc (.cells (icells x) 3)).alloc (.cells (icells y) 3)) [(W.heap.size, x), (W.heap.size + 1, y)] (by
    intro q hq
    simp only [List.mem_cons, List.not_mem_nil, or_false] at hq
    rcases hq with rfl | rfl
    · exact ⟨hw1.below hb2, lx⟩
    · exact ⟨hw2, ly⟩)
  rw [e2] at hi3
  refine ⟨hi3, ((hb1.alloc hb1.size _).alloc ?_ _)⟩
  rw [e2]
  omega
theorem lit1 (W : World) (x : List Int) (hx : ∀ z ∈ x, i64B z) (lx : x.length ≤ 9223372036854775807) :
    ImsAt ((W.alloc (.cells (icells x) 3)).alloc (.cells #[.slice (some ⟨W.heap.size, 0, none⟩) x.length x.length] 23)) (some ⟨W.heap.size + 1, 0, none⟩) [x] ∧
    Below W.heap.size W ((W.alloc (.cells (icells x) 3)).alloc (.cells #[.slice (some ⟨W.heap.size, 0, none⟩) x.length x.length] 23)) := by
  have hw1 := ints_new W x hx
  have hb1 := (Below.refl W.heap.size W).alloc (Nat.le_refl _) (.cells (icells x) 3)
  have e1 : (W.alloc (.cells (icells x) 3)).heap.size = W.heap.size + 1 := by simp
  have hi3 := ims_new (W.alloc (.cells (icells x) 3)) [(W.heap.size, x)] (by
    intro q hq
    simp only [List.mem_cons, List.not_mem_nil, or_false] at hq
    subst hq
    exact ⟨hw1, lx⟩)
  rw [e1] at hi3
  exact ⟨hi3, hb1.alloc hb1.size _⟩

def kBad : List Int := [192, 300, -1, 1, 1099511627776]
theorem kBad_all : kBad.all (fun z => decide (sCounts [[], [0, z]] 300 = ([], 2)) && decide (-9223372036854775808 ≤ z) && decide (z ≤ 9223372036854775807)) = true := by decide +kernel
def kC : List Int := (sCounts [[299, 193, 299]] 300).1
theorem kC_facts : (sCounts [[299, 193, 299]] 300).2 = 0 ∧ kC.length = 300 ∧ kC[299]? = some 2 ∧ kC[193]? = some 1 := by decide +kernel
def kZ (n : Nat) : List Int := List.replicate n 0
theorem kT_facts : sCounts [] 1025 = ([], 2) ∧ sCounts [] (-1) = ([], 2) ∧ sCounts [] 0 = ([], 0) ∧ sTake (kZ 195) 0 = ([], 0) ∧ sTake (kZ 195) (-1) = ([], 2) ∧ sTake (kZ 195) 2 = ([193, 194], 0) ∧ sTake [] 1 = ([], 7) ∧ sFree (kZ 193) = 0 ∧ sFree [] = 0 ∧ sFree [0, 0] = 0 := by decide +kernel

def BadRel (w0 : World) (i : Value) (W : World) : Prop := ∃ k : Nat, k ≤ 5 ∧ i = .int .i64 (k : Int) ∧ Below w0.heap.size w0 W

set_option maxHeartbeats 6400000 in
theorem spaceKnown_walk (HC : HCounts) (HT : HTake) (HF : HFree) (w : World) : Calls Try.prog 7 #[] w (okB true w) := by
  obtain ⟨k1, k2, k3, k4⟩ := kC_facts
  obtain ⟨t1, t2, t3, t4, t5, t6, t7, t8, t9, t10⟩ := kT_facts
  have K1 := Lib.hid k1
  have K2 := Lib.hid k2
  have K3 := Lib.hid k3
  have K4 := Lib.hid k4
  have T1 := Lib.hid t1
  have T2 := Lib.hid t2
  have T3 := Lib.hid t3
  have T4 := Lib.hid t4
  have T5 := Lib.hid t5
  have T6 := Lib.hid t6
  have T7 := Lib.hid t7
  have T8 := Lib.hid t8
  have T9 := Lib.hid t9
  have T10 := Lib.hid t10
  have HHC := Lib.hid HC
  have HHT := Lib.hid HT
  have HHF := Lib.hid HF
  have HW := Lib.hid (fun W => works_any HC HT HF W)
  have hbw : ∀ z ∈ kBad, i64B z := by
    intro z hz
    have := List.all_eq_true.1 kBad_all z hz
    simp only [Bool.and_eq_true, decide_eq_true_eq] at this
    exact ⟨this.1.2, this.2⟩
  have HBW := Lib.hid hbw
  have hi0 := ints_new w kBad hbw
  have hb0 := (Below.refl w.heap.size w).alloc (Nat.le_refl _) (.cells (icells kBad) 3)
  obtain ⟨w0, hw0⟩ : ∃ x, w.alloc (.cells (icells kBad) 3) = x := ⟨_, rfl⟩
  have hw0' : w.alloc (.cells #[.int .i64 192, .int .i64 300, .int .i64 (-1), .int .i64 1, .int .i64 1099511627776] 3) = w0 := hw0
  rw [hw0] at hi0 hb0
  have HI0 := Lib.hid hi0
  have HB0 := Lib.hid hb0
  clear k1 k2 k3 k4 t1 t2 t3 t4 t5 t6 t7 t8 t9 t10 HC HT HF hbw hi0 hb0 hw0
  go_enter Try.func7, Try.ntmps7
  go_wp2_with fail
  go_loopw [2] (fun i wr => BadRel w0 i wr) (fun i _ => 5 - (intOf i).toNat)
  case atStart => exact ⟨0, by omega, rfl, Below.refl _ _⟩
  case round =>
    obtain ⟨k, hk, rfl, hb⟩ := hrel
    have HB := Lib.hid hb
    have hI := HI0.out.below hb
    have hlw : w.heap.size < wr.heap.size := by
      obtain ⟨b', o', h1, h2, _⟩ := hI 0 (by decide)
      simp only [Option.some.injEq, Addr.mk.injEq, and_true] at h1
      rw [h1.1]; exact h2
    have HI := Lib.hid hI
    clear hb hI
    by_cases hlt : k < 5
    · have hklt : (k : Int) < 5 := by omega
      have hkb : k < kBad.length := hlt
      have q0 : wr.cell? ⟨w.heap.size, k, none⟩ = some (.int .i64 kBad[k]) := by
        have := cell_of (i := k) HI.out (List.getElem?_eq_getElem hkb)
        rwa [Nat.zero_add] at this
      have hz := List.all_eq_true.1 kBad_all _ (List.getElem_mem hkb)
      generalize kBad[k] = z at *
      simp only [Bool.and_eq_true, decide_eq_true_eq] at hz
      have hl := lit2 wr [] [0, z] (by simp) (by intro y hy; simp at hy; unfold i64B; omega) (by simp) (by simp)
      have HL := Lib.hid hl
      have HZ := Lib.hid hz.1.1
      clear hz hl
      go_wp2_with fail
      have hcall := HHC.out (some ⟨wr.heap.size + 1 + 1, 0, none⟩) 2 [[], [0, z]] 300 _ HL.out.1 (by simp) (by unfold i64B; omega)
      rw [HZ.out] at hcall
      refine hcall.mono ?_
      clear hcall
      rintro e W1 ⟨A1, c1, rfl, _, b, _, _⟩
      have HB1 := Lib.hid (below_step (below_step HB.out HL.out.2) b)
      clear b q0
      dsimp only
      go_wp2_with fail
      go_roundw
      case rel => exact ⟨k + 1, by omega, by go_num, HB1.out⟩
      case measure => simp [intOf]; omega
    · obtain ⟨Z0, h0⟩ : ∃ x, x = wr := ⟨_, rfl⟩
      subst h0
      have BZ := Lib.hid (below_step HB0.out HB.out)
      have hklt : ¬ (k : Int) < 5 := by omega
      clear hk hlt HI HB
      go_wp2_with fail
      have hcall := HHC.out none 0 [] 1025 Z0 (fun i h => absurd h (by simp)) (by decide) (by unfold i64B; omega)
      rw [T1.out] at hcall
      refine hcall.mono ?_
      clear hcall
      rintro e Z1 ⟨A1, c1, rfl, _, b, _, _⟩
      have BZ1 := Lib.hid (below_step BZ.out b)
      clear b
      dsimp only
      go_wp2_with fail
      have hcall := HHC.out none 0 [] (-1) Z1 (fun i h => absurd h (by simp)) (by decide) (by unfold i64B; omega)
      rw [T2.out] at hcall
      refine hcall.mono ?_
      clear hcall
      rintro e Z2 ⟨A2, c2, rfl, _, b, _, _⟩
      have BZ2 := Lib.hid (below_step BZ1.out b)
      clear b
      dsimp only
      go_wp2_with fail
      have hcall := HHC.out none 0 [] 0 Z2 (fun i h => absurd h (by simp)) (by decide) (by unfold i64B; omega)
      rw [T3.out] at hcall
      refine hcall.mono ?_
      clear hcall
      rintro e Z3 ⟨A3, c3, rfl, _, b, _, _⟩
      have BZ3 := Lib.hid (below_step BZ2.out b)
      clear b
      dsimp only
      go_wp2_with fail
      have hl := lit1 Z3 [299, 193, 299] (by intro y hy; simp at hy; unfold i64B; omega) (by simp)
      have hcall := HHC.out (some ⟨Z3.heap.size + 1, 0, none⟩) 1 [[299, 193, 299]] 300 _ hl.1 (by decide) (by unfold i64B; omega)
      rw [show sCounts [[299, 193, 299]] 300 = (kC, 0) from Prod.ext rfl K1.out] at hcall
      refine hcall.mono ?_
      clear hcall
      rintro e Z4 ⟨A4, c4, rfl, hI4, b, _, _⟩
      have BZ4 := Lib.hid (below_step (below_step BZ3.out hl.2) b)
      obtain ⟨b4, o4, rfl, hl4⟩ := IntsAt.some hI4 (by show 0 < kC.length; rw [K2.out]; decide)
      have HI4 := Lib.hid hI4
      have D4 := Lib.hid (Below.refl Z4.heap.size Z4)
      clear b hl hI4
      dsimp only
      rw [K2.out]
      have hmk195 : ∀ W : World, (Instr.makeSlice 23 (.int .i64 195) (.int .i64 195)).run Try.prog W = .ok (.slice (some ⟨W.heap.size, 0, none⟩) 195 195) (W.alloc (.cells (icells (kZ 195)) 3)) := make_ints 195 (by omega) (by omega)
      go_wp2_with fail
      have hn := ints_new Z4 (kZ 195) (zeros_i64 195)
      have bn := (Below.refl Z4.heap.size Z4).alloc (Nat.le_refl _) (.cells (icells (kZ 195)) 3)
      have hcall := HHT.out (some ⟨Z4.heap.size, 0, none⟩) 195 (kZ 195) 0 _ hn (by simp [kZ]) (by unfold i64B; omega)
      rw [T4.out] at hcall
      refine hcall.mono ?_
      clear hcall
      rintro e Z5 ⟨A5, c5, rfl, hI5, b, _, _⟩
      have BZ5 := Lib.hid (below_step (below_step BZ4.out bn) b)
      have HI5 := Lib.hid hI5
      have D5 := Lib.hid (below_step (below_step D4.out bn) b)
      clear b hn bn hI5
      dsimp only
      go_wp2_with fail
      have hn := ints_new Z5 (kZ 195) (zeros_i64 195)
      have bn := (Below.refl Z5.heap.size Z5).alloc (Nat.le_refl _) (.cells (icells (kZ 195)) 3)
      have hcall := HHT.out (some ⟨Z5.heap.size, 0, none⟩) 195 (kZ 195) (-1) _ hn (by simp [kZ]) (by unfold i64B; omega)
      rw [T5.out] at hcall
      refine hcall.mono ?_
      clear hcall
      rintro e Z6 ⟨A6, c6, rfl, hI6, b, _, _⟩
      have BZ6 := Lib.hid (below_step (below_step BZ5.out bn) b)
      have HI6 := Lib.hid hI6
      have D6 := Lib.hid (below_step (below_step D5.out bn) b)
      clear b hn bn hI6
      dsimp only
      go_wp2_with fail
      have hn := ints_new Z6 (kZ 195) (zeros_i64 195)
      have bn := (Below.refl Z6.heap.size Z6).alloc (Nat.le_refl _) (.cells (icells (kZ 195)) 3)
      have hcall := HHT.out (some ⟨Z6.heap.size, 0, none⟩) 195 (kZ 195) 2 _ hn (by simp [kZ]) (by unfold i64B; omega)
      rw [T6.out] at hcall
      refine hcall.mono ?_
      clear hcall
      rintro e Z7 ⟨A7, c7, rfl, hI7, b, _, _⟩
      have BZ7 := Lib.hid (below_step (below_step BZ6.out bn) b)
      have HI7 := Lib.hid hI7
      have D7 := Lib.hid (below_step (below_step D6.out bn) b)
      clear b hn bn hI7
      dsimp only
      obtain ⟨b7, o7, rfl, hl7⟩ := IntsAt.some HI7.out (by decide)
      clear hmk195
      go_wp2_with fail
      have hcall := HHT.out none 0 [] 1 Z7 (IntsAt.nil _ _) (by decide) (by unfold i64B; omega)
      rw [T7.out] at hcall
      refine hcall.mono ?_
      clear hcall
      rintro e Z8 ⟨A8, c8, rfl, _, b, _, _⟩
      have BZ8 := Lib.hid (below_step BZ7.out b)
      have HI8 := Lib.hid (HI7.out.below b)
      have D8 := Lib.hid (below_step D7.out b)
      clear b
      dsimp only
      go_wp2_with fail
      refine (HW.out Z8).mono ?_
      rintro e Z9 ⟨rfl, b⟩
      have BZ9 := Lib.hid (below_step BZ8.out b)
      have hi7 := HI8.out.below b
      have p0 : Z9.cell? ⟨b7, o7, none⟩ = some (.int .i64 193) := cell_of (i := 0) hi7 rfl
      have p1 : Z9.cell? ⟨b7, o7 + 1, none⟩ = some (.int .i64 194) := cell_of (i := 1) hi7 rfl
      have bz49 : Below Z4.heap.size Z4 Z9 := below_step D8.out b
      have hi4 := HI4.out.below bz49
      have r0 := cell_of hi4 K3.out
      have r1 := cell_of hi4 K4.out
      have hl4' : b4 < Z9.heap.size := Nat.lt_of_lt_of_le hl4 bz49.size
      have hl7' : b7 < Z9.heap.size := by
        obtain ⟨b', o', h1, h2, _⟩ := hi7 0 (by decide)
        simp only [Option.some.injEq, Addr.mk.injEq, and_true] at h1
        rw [h1.1]; exact h2
      have hmk193 : ∀ W : World, (Instr.makeSlice 23 (.int .i64 193) (.int .i64 193)).run Try.prog W = .ok (.slice (some ⟨W.heap.size, 0, none⟩) 193 193) (W.alloc (.cells (icells (kZ 193)) 3)) := make_ints 193 (by omega) (by omega)
      clear b hi7 bz49 hi4
      go_wp2_with fail
      have hn := ints_new Z9 (kZ 193) (zeros_i64 193)
      have bn := (Below.refl Z9.heap.size Z9).alloc (Nat.le_refl _) (.cells (icells (kZ 193)) 3)
      have hcall := HHF.out (some ⟨Z9.heap.size, 0, none⟩) 193 (kZ 193) _ hn (by simp [kZ])
      rw [T8.out] at hcall
      refine hcall.mono ?_
      clear hcall
      rintro e Z10 ⟨rfl, b⟩
      have BZ10 := Lib.hid (below_step (below_step BZ9.out bn) b)
      clear b hn bn p0 p1 r0 r1 hl4' hl7' hmk193
      go_wp2_with fail
      refine (HHF.out none 0 [] Z10 (IntsAt.nil _ _) (by decide)).mono ?_
      rw [T9.out]
      rintro e Z11 ⟨rfl, b⟩
      have BZ11 := Lib.hid (below_step BZ10.out b)
      clear b
      go_wp2_with fail
      have hn := ints_new Z11 [0, 0] (by intro y hy; simp at hy; unfold i64B; omega)
      have bn := (Below.refl Z11.heap.size Z11).alloc (Nat.le_refl _) (.cells (icells [0, 0]) 3)
      have hcall := HHF.out (some ⟨Z11.heap.size, 0, none⟩) 2 [0, 0] _ hn (by decide)
      rw [T10.out] at hcall
      refine hcall.mono ?_
      clear hcall
      rintro e Z12 ⟨rfl, b⟩
      have BZ12 := Lib.hid (below_step (below_step BZ11.out bn) b)
      clear b hn bn
      go_wp2_with fail
      go_ret
      exact ⟨rfl, BZ12.out⟩
end Go.Proofs.Ytpeeoaogklkjlaa.sp
