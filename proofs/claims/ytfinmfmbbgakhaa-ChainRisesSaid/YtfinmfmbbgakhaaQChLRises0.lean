/- ChWRi. -/
import Derived.Test.YtfinmfmbbgakhaaQ13
/- The walk of ChainRises. -/
namespace Go.Proofs.Ytfinmfmbbgakhaa.ch
open Go Go.RowKit Go.Sort Go.Proofs.Ytfinmfmbbgakhaa.ib
set_option maxRecDepth 100000

theorem snap_low {d : CH} {g : Gd} (h : above g d.last = false) : d.snap g = (d, 2) ∧ d.add g [] = (d, 2) := by
  have hm : d.may g = 2 := by unfold CH.may; rw [h]; rfl
  unfold CH.snap CH.add
  rw [hm]
  exact ⟨rfl, rfl⟩
theorem snap_full {d : CH} {g : Gd} (h : above g d.last = true) (hn : d.snaps.length = 20) : d.snap g = (d, 3) ∧ d.add g [] = (d, 3) := by
  have hm : d.may g = 3 := by unfold CH.may; rw [h, if_pos rfl, if_pos (by omega)]
  unfold CH.snap CH.add
  rw [hm]
  exact ⟨rfl, rfl⟩
theorem snap_done {d : CH} {g : Gd} (h : above g d.last = true) (hn : d.snaps.length < 20) :
    (∃ d', d.snap g = (d', 0) ∧ d'.snaps.length = d.snaps.length + 1 ∧ d'.last = g) ∧ ∃ d', d.add g [] = (d', 0) ∧ d'.snaps.length = d.snaps.length + 1 ∧ d'.last = g := by
  have hm : d.may g = 0 := by unfold CH.may; rw [h, if_pos rfl, if_neg (by omega)]
  unfold CH.snap CH.add
  rw [hm]
  refine ⟨⟨_, rfl, by simp, last_snoc _ _ _⟩, ?_⟩
  rw [putAll_nil]
  exact ⟨_, rfl, by simp, last_snoc _ _ _⟩

def RiRel (Is : IsT) (gs : List Gd) (p bl m : Nat) (w : World) (v i : Value) (wr : World) : Prop :=
  ∃ (k : Nat) (d : CH) (own : Nat → Prop), k ≤ gs.length ∧ k ≤ 100 ∧ i = .int .i64 (k : Int) ∧ v = .int .i64 (d.snaps.length : Int) ∧ Is own wr p d ∧ (∀ j, own j → m ≤ j) ∧ ¬ own bl ∧
    Blk wr bl 37 #[.int .u64 (d.last.1 : Int), .int .u64 (d.last.2 : Int)] ∧ Below w.heap.size w wr ∧ d.snaps.length ≤ 20

set_option maxHeartbeats 25600000 in
theorem chainRises_walk {Is : IsT} (H : Impl Is) (A : Option Addr) (c : Nat) (gs : List Gd) (w : World) (hl : gs.length ≤ 9223372036854775807) (hT : GdL w A gs) :
    Calls Try.prog 6 #[.slice A gs.length c] w (okTrue w) := by
  have HT := Lib.hid hT
  clear hT
  go_enter Try.func6, Try.ntmps6
  go_wp2_with fail
  refine (works_any H w).mono ?_
  rintro e W0 ⟨rfl, b0⟩
  have B0 := Lib.hid b0
  clear b0
  go_wp2_with fail
  refine (H.new_some 1 W0 (by decide) (by decide)).mono ?_
  rintro e W1 ⟨p, own, rfl, hi, hb, ho⟩
  have HI := Lib.hid hi
  have HO : Hid (∀ j, own j → w.heap.size ≤ j) := fun j hj => Nat.le_trans B0.out.size (ho j hj)
  have HLO := Lib.hid (H.low hi)
  have B1 := Lib.hid (below_step B0.out hb)
  clear hi hb ho B0
  have kb := Blk.new W1 37 #[.int .u64 0, .int .u64 0]
  have bb := (Below.refl W1.heap.size W1).alloc (Nat.le_refl _) (.cells #[.int .u64 0, .int .u64 0] 37)
  obtain ⟨bl, hbl⟩ : ∃ x, W1.heap.size = x := ⟨_, rfl⟩
  have HI2 := Lib.hid (H.keep HI.out (fun j hj => bb.block j (HLO.out j hj)) bb.size)
  have HNB : Hid (¬ own bl) := fun h => by have := HLO.out bl h; omega
  have HBM : Hid (w.heap.size ≤ bl) := by rw [← hbl]; exact B1.out.size
  have B2 := Lib.hid (below_step B1.out bb)
  rw [hbl] at kb
  clear HI HLO B1
  go_wp2_with fail
  obtain ⟨W2, hW2⟩ : ∃ x, W1.alloc (.cells #[.int .u64 0, .int .u64 0] 37) = x := ⟨_, rfl⟩
  rw [hW2] at kb HI2 B2 ⊢
  have KB := Lib.hid kb
  clear kb bb
  go_loopw [4, 6] (fun v i wr => RiRel Is gs p bl w.heap.size w v i wr) (fun _ i _ => 101 - (intOf i).toNat)
  case atStart => exact ⟨0, chNew 1, own, Nat.zero_le _, Nat.zero_le _, rfl, rfl, HI2.out, HO.out, HNB.out, KB.out, B2.out, by decide⟩
  case round =>
    clear HI2 HO HNB KB B2 hW2 hbl
    obtain ⟨k, d, own, hk, hk100, rfl, rfl, hi, ho, hnb, hkb, hb, hn⟩ := hrel
    have HI := Lib.hid hi
    have HO := Lib.hid ho
    have HNB := Lib.hid hnb
    have HKB := Lib.hid hkb
    have HB := Lib.hid hb
    clear hi ho hnb hkb hb
    by_cases hgo : k < gs.length ∧ k < 100
    · obtain ⟨hlt, hlt2⟩ := hgo
      have hklt : (k : Int) < (gs.length : Int) := by omega
      have hk2 : (k : Int) < 100 := by omega
      obtain ⟨b, o, rfl, hbl, c0, c1, hgb⟩ := HT.out k hlt
      have HGB := Lib.hid hgb
      have hle := hgb.1
      have hlc := hgb.2
      have e0 : wr.cell? ⟨b, o + k * 2, none⟩ = some (.int .u64 (gs[k].1 : Int)) := by rw [HB.out.cell (p := ⟨b, o + k * 2, none⟩) hbl]; exact c0
      have e1 : wr.cell? ⟨b, o + k * 2 + 1, none⟩ = some (.int .u64 (gs[k].2 : Int)) := by rw [HB.out.cell (p := ⟨b, o + k * 2 + 1, none⟩) hbl]; exact c1
      have lb : b < wr.heap.size := Nat.lt_of_lt_of_le hbl HB.out.size
      have f0 : wr.cell? ⟨bl, 0, none⟩ = some (.int .u64 (d.last.1 : Int)) := HKB.out.cell 0
      have f1 : wr.cell? ⟨bl, 1, none⟩ = some (.int .u64 (d.last.2 : Int)) := HKB.out.cell 1
      have lbl := HKB.out.lt
      have HBL := Lib.hid hbl
      have C0 := Lib.hid c0
      have C1 := Lib.hid c1
      clear c0 c1 hgb hbl
      generalize gs[k] = gk at *
      obtain ⟨ge, gc⟩ := gk
      dsimp only at e0 e1 hle hlc
      obtain ⟨le, lc, hll⟩ : ∃ a b, d.last = (a, b) := ⟨_, _, rfl⟩
      have HLL := Lib.hid hll
      rw [hll] at f0 f1
      dsimp only at f0 f1
      clear hll
      obtain ⟨n, hnn⟩ : ∃ n, d.snaps.length = n := ⟨_, rfl⟩
      have HNN := Lib.hid hnn
      rw [hnn] at hn ⊢
      clear hnn
      obtain ⟨k2, hk2e⟩ : ∃ q, q = k % 2 := ⟨_, rfl⟩
      have HK2 : Hid ((k : Int).tmod 2 = (k2 : Int)) := by unfold Hid; rw [Int.tmod_eq_emod_of_nonneg (by omega)]; omega
      have hk2l : k2 = 0 ∨ k2 = 1 := by omega
      clear hk2e
      by_cases h1 : le < ge
      · have HAB : Hid (above (ge, gc) d.last = true) := by unfold Hid above; rw [HLL.out, decide_eq_true h1]; rfl
        have g1 : decide (le < ge) = true := decide_eq_true h1
        go_wp2_with fail
        go_quiet (fail)
        have HI := Lib.hid (H.keep HI.out (fun j hj => rfl) (Nat.le_refl _) : Is own (wr.drewN nq) p d)
        have HKB : Hid (Blk (wr.drewN nq) bl 37 _) := HKB.out
        have HB : Hid (Below w.heap.size w (wr.drewN nq)) := ⟨HB.out.os, HB.out.tape, HB.out.output, HB.out.size, HB.out.block⟩
        obtain ⟨wq, hwq⟩ : ∃ x, wr.drewN nq = x := ⟨_, rfl⟩
        have e0 : (wr.drewN nq).cell? ⟨b, o + k * 2, none⟩ = some (.int .u64 (ge : Int)) := e0
        have e1 : (wr.drewN nq).cell? ⟨b, o + k * 2 + 1, none⟩ = some (.int .u64 (gc : Int)) := e1
        have lb : b < (wr.drewN nq).heap.size := lb
        rw [hwq] at HI HKB HB e0 e1 lb ⊢
        have f0 : wq.cell? ⟨bl, 0, none⟩ = some (.int .u64 (d.last.1 : Int)) := HKB.out.cell 0
        have f1 : wq.cell? ⟨bl, 1, none⟩ = some (.int .u64 (d.last.2 : Int)) := HKB.out.cell 1
        have lbl := HKB.out.lt
        clear hwq
        rcases hk2l with h | h
        · subst h
          have HKM : Hid ((k : Int).tmod 2 = 0) := HK2.out
          have hkm := HKM.out
          by_cases hn20 : n = 20
          · have hnb : ((n : Int) == 20) = true := by rw [hn20]; rfl
            have HN20 := Lib.hid hn20
            clear hn20
            go_wp2_with fail
            have hcall := H.snap (ge, gc) HI.out HGB.out
            rw [(snap_full HAB.out (HNN.out.trans HN20.out)).1] at hcall
            refine hcall.mono ?_
            clear hcall
            rintro e W5 ⟨rfl, own5, hi5, hb5, hg5⟩
            dsimp only at hi5
            have HI5 := Lib.hid hi5
            have HO5 : Hid (∀ j, own5 j → w.heap.size ≤ j) := fun j hj => by
              rcases hg5 j hj with h | h
              · exact HO.out j h
              · have := HB.out.size; omega
            have HNB5 : Hid (¬ own5 bl) := fun h => by
              rcases hg5 bl h with h | h
              · exact HNB.out h
              · have := HKB.out.lt; omega
            have HKB5 := Lib.hid (HKB.out.of_block (hb5.block bl HKB.out.lt HNB.out))
            have HB5 := Lib.hid (HB.out.trans (hb5.below HO.out HB.out.size))
            clear hi5 hb5 hg5 e0 e1 f0 f1 lb lbl
            dsimp only
            go_wp2_with fail
            refine (H.list HI5.out).mono ?_
            rintro e W6 ⟨A6, c6, rfl, -, -, b6⟩
            have HI6 := Lib.hid (H.keep HI5.out (fun j hj => b6.block j (H.low HI5.out j hj)) b6.size)
            have HKB6 := Lib.hid (HKB5.out.below b6)
            have HB6 := Lib.hid (below_step HB5.out b6)
            clear b6
            have hll6 : (CH.list d).length = n := by unfold CH.list; rw [List.length_map]; exact HNN.out
            rw [hll6]
            clear hll6
            go_wp2_with fail
            go_roundw
            case rel => exact ⟨k + 1, d, own5, by omega, by omega, by go_num, by rw [HNN.out], HI6.out, HO5.out, HNB5.out, HKB6.out, HB6.out, by rw [HNN.out]; exact hn⟩
            case measure => simp [intOf]; omega
          · have hnb : ((n : Int) == 20) = false := by rw [beq_eq_false_iff_ne]; omega
            obtain ⟨d2, hd2, hn2, hl2⟩ := (snap_done HAB.out (by rw [HNN.out]; omega : d.snaps.length < 20)).1
            have HN2 := Lib.hid hn2
            have HL2 := Lib.hid hl2
            clear hn2 hl2
            go_wp2_with fail
            have hcall := H.snap (ge, gc) HI.out HGB.out
            rw [hd2] at hcall
            refine hcall.mono ?_
            clear hcall
            rintro e W5 ⟨rfl, own5, hi5, hb5, hg5⟩
            dsimp only at hi5
            clear hd2
            have HI5 := Lib.hid hi5
            have HO5 : Hid (∀ j, own5 j → w.heap.size ≤ j) := fun j hj => by
              rcases hg5 j hj with h | h
              · exact HO.out j h
              · have := HB.out.size; omega
            have HNB5 : Hid (¬ own5 bl) := fun h => by
              rcases hg5 bl h with h | h
              · exact HNB.out h
              · have := HKB.out.lt; omega
            have HKB5 := Lib.hid (HKB.out.of_block (hb5.block bl HKB.out.lt HNB.out))
            have HB5 := Lib.hid (HB.out.trans (hb5.below HO.out HB.out.size))
            clear hi5 hb5 hg5 e0 e1 f0 f1 lb lbl
            dsimp only
            have g0 : W5.cell? ⟨b, o + k * 2, none⟩ = some (.int .u64 (ge : Int)) := by rw [HB5.out.cell (p := ⟨b, o + k * 2, none⟩) HBL.out]; exact C0.out
            have g1 : W5.cell? ⟨b, o + k * 2 + 1, none⟩ = some (.int .u64 (gc : Int)) := by rw [HB5.out.cell (p := ⟨b, o + k * 2 + 1, none⟩) HBL.out]; exact C1.out
            have lb5 : b < W5.heap.size := Nat.lt_of_lt_of_le HBL.out HB5.out.size
            have f0 : W5.cell? ⟨bl, 0, none⟩ = some (.int .u64 (d.last.1 : Int)) := HKB5.out.cell 0
            have f1 : W5.cell? ⟨bl, 1, none⟩ = some (.int .u64 (d.last.2 : Int)) := HKB5.out.cell 1
            have lbl := HKB5.out.lt
            have fz0 := HKB5.out.frozen 0
            have fz1 := HKB5.out.frozen 1
            go_wp2_with fail
            have hk6 := (HKB5.out.set_ 0 (.int .u64 (ge : Int))).set_ 1 (.int .u64 (gc : Int))
            have HKB7 : Hid (Blk ((W5.setCell ⟨bl, 0, none⟩ (.int .u64 (ge : Int))).setCell ⟨bl, 1, none⟩ (.int .u64 (gc : Int))) bl 37 #[.int .u64 (d2.last.1 : Int), .int .u64 (d2.last.2 : Int)]) := by
              unfold Hid
              rw [HL2.out]
              exact hk6
            have hb7 : But (fun j => j = bl) W5 ((W5.setCell ⟨bl, 0, none⟩ (.int .u64 (ge : Int))).setCell ⟨bl, 1, none⟩ (.int .u64 (gc : Int))) := ((But.refl (fun j => j = bl) W5).setCell ⟨bl, 0, none⟩ _ (.inl rfl)).setCell ⟨bl, 1, none⟩ _ (.inl rfl)
            have HI7 := Lib.hid (H.keep HI5.out (fun j hj => hb7.block j (H.low HI5.out j hj) (fun e => HNB5.out (e ▸ hj))) hb7.size)
            have HB7 := Lib.hid (HB5.out.trans (hb7.below (fun i e => by rw [e]; exact HBM.out) HB5.out.size))
            clear hk6 hb7 g0 g1 lb5 f0 f1 fz0 fz1 lbl
            obtain ⟨W7, hW7⟩ : ∃ x, (W5.setCell ⟨bl, 0, none⟩ (.int .u64 (ge : Int))).setCell ⟨bl, 1, none⟩ (.int .u64 (gc : Int)) = x := ⟨_, rfl⟩
            rw [hW7] at HKB7 HI7 HB7 ⊢
            clear hW7
            refine (H.list HI7.out).mono ?_
            rintro e W6 ⟨A6, c6, rfl, -, -, b6⟩
            have HI6 := Lib.hid (H.keep HI7.out (fun j hj => b6.block j (H.low HI7.out j hj)) b6.size)
            have HKB6 := Lib.hid (HKB7.out.below b6)
            have HB6 := Lib.hid (below_step HB7.out b6)
            clear b6
            have hll6 : (CH.list d2).length = n + 1 := by unfold CH.list; rw [List.length_map, HN2.out, HNN.out]
            rw [hll6]
            clear hll6
            go_wp2_with fail
            go_roundw
            case rel => exact ⟨k + 1, d2, own5, by omega, by omega, by go_num, by rw [HN2.out, HNN.out]; go_num, HI6.out, HO5.out, HNB5.out, HKB6.out, HB6.out, by rw [HN2.out, HNN.out]; omega⟩
            case measure => simp [intOf]; omega
        · subst h
          have HKM : Hid ((k : Int).tmod 2 = 1) := HK2.out
          have hkm := HKM.out
          by_cases hn20 : n = 20
          · have hnb : ((n : Int) == 20) = true := by rw [hn20]; rfl
            have HN20 := Lib.hid hn20
            clear hn20
            go_wp2_with fail
            have hcall := H.add (ge, gc) none 0 [] HI.out HGB.out (ChL.nil _ _) (by decide) (fun _ _ e => by cases e)
            rw [(snap_full HAB.out (HNN.out.trans HN20.out)).2] at hcall
            refine hcall.mono ?_
            clear hcall
            rintro e W5 ⟨rfl, own5, hi5, hb5, hg5⟩
            dsimp only at hi5
            have HI5 := Lib.hid hi5
            have HO5 : Hid (∀ j, own5 j → w.heap.size ≤ j) := fun j hj => by
              rcases hg5 j hj with h | h
              · exact HO.out j h
              · have := HB.out.size; omega
            have HNB5 : Hid (¬ own5 bl) := fun h => by
              rcases hg5 bl h with h | h
              · exact HNB.out h
              · have := HKB.out.lt; omega
            have HKB5 := Lib.hid (HKB.out.of_block (hb5.block bl HKB.out.lt HNB.out))
            have HB5 := Lib.hid (HB.out.trans (hb5.below HO.out HB.out.size))
            clear hi5 hb5 hg5 e0 e1 f0 f1 lb lbl
            dsimp only
            go_wp2_with fail
            refine (H.list HI5.out).mono ?_
            rintro e W6 ⟨A6, c6, rfl, -, -, b6⟩
            have HI6 := Lib.hid (H.keep HI5.out (fun j hj => b6.block j (H.low HI5.out j hj)) b6.size)
            have HKB6 := Lib.hid (HKB5.out.below b6)
            have HB6 := Lib.hid (below_step HB5.out b6)
            clear b6
            have hll6 : (CH.list d).length = n := by unfold CH.list; rw [List.length_map]; exact HNN.out
            rw [hll6]
            clear hll6
            go_wp2_with fail
            go_roundw
            case rel => exact ⟨k + 1, d, own5, by omega, by omega, by go_num, by rw [HNN.out], HI6.out, HO5.out, HNB5.out, HKB6.out, HB6.out, by rw [HNN.out]; exact hn⟩
            case measure => simp [intOf]; omega
          · have hnb : ((n : Int) == 20) = false := by rw [beq_eq_false_iff_ne]; omega
            obtain ⟨d2, hd2, hn2, hl2⟩ := (snap_done HAB.out (by rw [HNN.out]; omega : d.snaps.length < 20)).2
            have HN2 := Lib.hid hn2
            have HL2 := Lib.hid hl2
            clear hn2 hl2
            go_wp2_with fail
            have hcall := H.add (ge, gc) none 0 [] HI.out HGB.out (ChL.nil _ _) (by decide) (fun _ _ e => by cases e)
            rw [hd2] at hcall
            refine hcall.mono ?_
            clear hcall
            rintro e W5 ⟨rfl, own5, hi5, hb5, hg5⟩
            dsimp only at hi5
            clear hd2
            have HI5 := Lib.hid hi5
            have HO5 : Hid (∀ j, own5 j → w.heap.size ≤ j) := fun j hj => by
              rcases hg5 j hj with h | h
              · exact HO.out j h
              · have := HB.out.size; omega
            have HNB5 : Hid (¬ own5 bl) := fun h => by
              rcases hg5 bl h with h | h
              · exact HNB.out h
              · have := HKB.out.lt; omega
            have HKB5 := Lib.hid (HKB.out.of_block (hb5.block bl HKB.out.lt HNB.out))
            have HB5 := Lib.hid (HB.out.trans (hb5.below HO.out HB.out.size))
            clear hi5 hb5 hg5 e0 e1 f0 f1 lb lbl
            dsimp only
            have g0 : W5.cell? ⟨b, o + k * 2, none⟩ = some (.int .u64 (ge : Int)) := by rw [HB5.out.cell (p := ⟨b, o + k * 2, none⟩) HBL.out]; exact C0.out
            have g1 : W5.cell? ⟨b, o + k * 2 + 1, none⟩ = some (.int .u64 (gc : Int)) := by rw [HB5.out.cell (p := ⟨b, o + k * 2 + 1, none⟩) HBL.out]; exact C1.out
            have lb5 : b < W5.heap.size := Nat.lt_of_lt_of_le HBL.out HB5.out.size
            have f0 : W5.cell? ⟨bl, 0, none⟩ = some (.int .u64 (d.last.1 : Int)) := HKB5.out.cell 0
            have f1 : W5.cell? ⟨bl, 1, none⟩ = some (.int .u64 (d.last.2 : Int)) := HKB5.out.cell 1
            have lbl := HKB5.out.lt
            have fz0 := HKB5.out.frozen 0
            have fz1 := HKB5.out.frozen 1
            go_wp2_with fail
            have hk6 := (HKB5.out.set_ 0 (.int .u64 (ge : Int))).set_ 1 (.int .u64 (gc : Int))
            have HKB7 : Hid (Blk ((W5.setCell ⟨bl, 0, none⟩ (.int .u64 (ge : Int))).setCell ⟨bl, 1, none⟩ (.int .u64 (gc : Int))) bl 37 #[.int .u64 (d2.last.1 : Int), .int .u64 (d2.last.2 : Int)]) := by
              unfold Hid
              rw [HL2.out]
              exact hk6
            have hb7 : But (fun j => j = bl) W5 ((W5.setCell ⟨bl, 0, none⟩ (.int .u64 (ge : Int))).setCell ⟨bl, 1, none⟩ (.int .u64 (gc : Int))) := ((But.refl (fun j => j = bl) W5).setCell ⟨bl, 0, none⟩ _ (.inl rfl)).setCell ⟨bl, 1, none⟩ _ (.inl rfl)
            have HI7 := Lib.hid (H.keep HI5.out (fun j hj => hb7.block j (H.low HI5.out j hj) (fun e => HNB5.out (e ▸ hj))) hb7.size)
            have HB7 := Lib.hid (HB5.out.trans (hb7.below (fun i e => by rw [e]; exact HBM.out) HB5.out.size))
            clear hk6 hb7 g0 g1 lb5 f0 f1 fz0 fz1 lbl
            obtain ⟨W7, hW7⟩ : ∃ x, (W5.setCell ⟨bl, 0, none⟩ (.int .u64 (ge : Int))).setCell ⟨bl, 1, none⟩ (.int .u64 (gc : Int)) = x := ⟨_, rfl⟩
            rw [hW7] at HKB7 HI7 HB7 ⊢
            clear hW7
            refine (H.list HI7.out).mono ?_
            rintro e W6 ⟨A6, c6, rfl, -, -, b6⟩
            have HI6 := Lib.hid (H.keep HI7.out (fun j hj => b6.block j (H.low HI7.out j hj)) b6.size)
            have HKB6 := Lib.hid (HKB7.out.below b6)
            have HB6 := Lib.hid (below_step HB7.out b6)
            clear b6
            have hll6 : (CH.list d2).length = n + 1 := by unfold CH.list; rw [List.length_map, HN2.out, HNN.out]
            rw [hll6]
            clear hll6
            go_wp2_with fail
            go_roundw
            case rel => exact ⟨k + 1, d2, own5, by omega, by omega, by go_num, by rw [HN2.out, HNN.out]; go_num, HI6.out, HO5.out, HNB5.out, HKB6.out, HB6.out, by rw [HN2.out, HNN.out]; omega⟩
            case measure => simp [intOf]; omega
      · have g1 : decide (le < ge) = false := decide_eq_false h1
        by_cases h2 : ge = le
        · subst h2
          have g2 : ((ge : Int) == (ge : Int)) = true := by simp
          by_cases h3 : lc < gc
          · have HAB : Hid (above (ge, gc) d.last = true) := by unfold Hid above; rw [HLL.out, decide_eq_true h3]; simp
            have g3 : decide (lc < gc) = true := decide_eq_true h3
            go_wp2_with fail
            go_quiet (fail)
            have HI := Lib.hid (H.keep HI.out (fun j hj => rfl) (Nat.le_refl _) : Is own (wr.drewN nq) p d)
            have HKB : Hid (Blk (wr.drewN nq) bl 37 _) := HKB.out
            have HB : Hid (Below w.heap.size w (wr.drewN nq)) := ⟨HB.out.os, HB.out.tape, HB.out.output, HB.out.size, HB.out.block⟩
            obtain ⟨wq, hwq⟩ : ∃ x, wr.drewN nq = x := ⟨_, rfl⟩
            have e0 : (wr.drewN nq).cell? ⟨b, o + k * 2, none⟩ = some (.int .u64 (ge : Int)) := e0
            have e1 : (wr.drewN nq).cell? ⟨b, o + k * 2 + 1, none⟩ = some (.int .u64 (gc : Int)) := e1
            have lb : b < (wr.drewN nq).heap.size := lb
            rw [hwq] at HI HKB HB e0 e1 lb ⊢
            have f0 : wq.cell? ⟨bl, 0, none⟩ = some (.int .u64 (d.last.1 : Int)) := HKB.out.cell 0
            have f1 : wq.cell? ⟨bl, 1, none⟩ = some (.int .u64 (d.last.2 : Int)) := HKB.out.cell 1
            have lbl := HKB.out.lt
            clear hwq
            rcases hk2l with h | h
            · subst h
              have HKM : Hid ((k : Int).tmod 2 = 0) := HK2.out
              have hkm := HKM.out
              by_cases hn20 : n = 20
              · have hnb : ((n : Int) == 20) = true := by rw [hn20]; rfl
                have HN20 := Lib.hid hn20
                clear hn20
                go_wp2_with fail
                have hcall := H.snap (ge, gc) HI.out HGB.out
                rw [(snap_full HAB.out (HNN.out.trans HN20.out)).1] at hcall
                refine hcall.mono ?_
                clear hcall
                rintro e W5 ⟨rfl, own5, hi5, hb5, hg5⟩
                dsimp only at hi5
                have HI5 := Lib.hid hi5
                have HO5 : Hid (∀ j, own5 j → w.heap.size ≤ j) := fun j hj => by
                  rcases hg5 j hj with h | h
                  · exact HO.out j h
                  · have := HB.out.size; omega
                have HNB5 : Hid (¬ own5 bl) := fun h => by
                  rcases hg5 bl h with h | h
                  · exact HNB.out h
                  · have := HKB.out.lt; omega
                have HKB5 := Lib.hid (HKB.out.of_block (hb5.block bl HKB.out.lt HNB.out))
                have HB5 := Lib.hid (HB.out.trans (hb5.below HO.out HB.out.size))
                clear hi5 hb5 hg5 e0 e1 f0 f1 lb lbl
                dsimp only
                go_wp2_with fail
                refine (H.list HI5.out).mono ?_
                rintro e W6 ⟨A6, c6, rfl, -, -, b6⟩
                have HI6 := Lib.hid (H.keep HI5.out (fun j hj => b6.block j (H.low HI5.out j hj)) b6.size)
                have HKB6 := Lib.hid (HKB5.out.below b6)
                have HB6 := Lib.hid (below_step HB5.out b6)
                clear b6
                have hll6 : (CH.list d).length = n := by unfold CH.list; rw [List.length_map]; exact HNN.out
                rw [hll6]
                clear hll6
                go_wp2_with fail
                go_roundw
                case rel => exact ⟨k + 1, d, own5, by omega, by omega, by go_num, by rw [HNN.out], HI6.out, HO5.out, HNB5.out, HKB6.out, HB6.out, by rw [HNN.out]; exact hn⟩
                case measure => simp [intOf]; omega
              · have hnb : ((n : Int) == 20) = false := by rw [beq_eq_false_iff_ne]; omega
                obtain ⟨d2, hd2, hn2, hl2⟩ := (snap_done HAB.out (by rw [HNN.out]; omega : d.snaps.length < 20)).1
                have HN2 := Lib.hid hn2
                have HL2 := Lib.hid hl2
                clear hn2 hl2
                go_wp2_with fail
                have hcall := H.snap (ge, gc) HI.out HGB.out
                rw [hd2] at hcall
                refine hcall.mono ?_
                clear hcall
                rintro e W5 ⟨rfl, own5, hi5, hb5, hg5⟩
                dsimp only at hi5
                clear hd2
                have HI5 := Lib.hid hi5
                have HO5 : Hid (∀ j, own5 j → w.heap.size ≤ j) := fun j hj => by
                  rcases hg5 j hj with h | h
                  · exact HO.out j h
                  · have := HB.out.size; omega
                have HNB5 : Hid (¬ own5 bl) := fun h => by
                  rcases hg5 bl h with h | h
                  · exact HNB.out h
                  · have := HKB.out.lt; omega
                have HKB5 := Lib.hid (HKB.out.of_block (hb5.block bl HKB.out.lt HNB.out))
                have HB5 := Lib.hid (HB.out.trans (hb5.below HO.out HB.out.size))
                clear hi5 hb5 hg5 e0 e1 f0 f1 lb lbl
                dsimp only
                have g0 : W5.cell? ⟨b, o + k * 2, none⟩ = some (.int .u64 (ge : Int)) := by rw [HB5.out.cell (p := ⟨b, o + k * 2, none⟩) HBL.out]; exact C0.out
                have g1 : W5.cell? ⟨b, o + k * 2 + 1, none⟩ = some (.int .u64 (gc : Int)) := by rw [HB5.out.cell (p := ⟨b, o + k * 2 + 1, none⟩) HBL.out]; exact C1.out
                have lb5 : b < W5.heap.size := Nat.lt_of_lt_of_le HBL.out HB5.out.size
                have f0 : W5.cell? ⟨bl, 0, none⟩ = some (.int .u64 (d.last.1 : Int)) := HKB5.out.cell 0
                have f1 : W5.cell? ⟨bl, 1, none⟩ = some (.int .u64 (d.last.2 : Int)) := HKB5.out.cell 1
                have lbl := HKB5.out.lt
                have fz0 := HKB5.out.frozen 0
                have fz1 := HKB5.out.frozen 1
                go_wp2_with fail
                have hk6 := (HKB5.out.set_ 0 (.int .u64 (ge : Int))).set_ 1 (.int .u64 (gc : Int))
                have HKB7 : Hid (Blk ((W5.setCell ⟨bl, 0, none⟩ (.int .u64 (ge : Int))).setCell ⟨bl, 1, none⟩ (.int .u64 (gc : Int))) bl 37 #[.int .u64 (d2.last.1 : Int), .int .u64 (d2.last.2 : Int)]) := by
                  unfold Hid
                  rw [HL2.out]
                  exact hk6
                have hb7 : But (fun j => j = bl) W5 ((W5.setCell ⟨bl, 0, none⟩ (.int .u64 (ge : Int))).setCell ⟨bl, 1, none⟩ (.int .u64 (gc : Int))) := ((But.refl (fun j => j = bl) W5).setCell ⟨bl, 0, none⟩ _ (.inl rfl)).setCell ⟨bl, 1, none⟩ _ (.inl rfl)
                have HI7 := Lib.hid (H.keep HI5.out (fun j hj => hb7.block j (H.low HI5.out j hj) (fun e => HNB5.out (e ▸ hj))) hb7.size)
                have HB7 := Lib.hid (HB5.out.trans (hb7.below (fun i e => by rw [e]; exact HBM.out) HB5.out.size))
                clear hk6 hb7 g0 g1 lb5 f0 f1 fz0 fz1 lbl
                obtain ⟨W7, hW7⟩ : ∃ x, (W5.setCell ⟨bl, 0, none⟩ (.int .u64 (ge : Int))).setCell ⟨bl, 1, none⟩ (.int .u64 (gc : Int)) = x := ⟨_, rfl⟩
                rw [hW7] at HKB7 HI7 HB7 ⊢
                clear hW7
                refine (H.list HI7.out).mono ?_
                rintro e W6 ⟨A6, c6, rfl, -, -, b6⟩
                have HI6 := Lib.hid (H.keep HI7.out (fun j hj => b6.block j (H.low HI7.out j hj)) b6.size)
                have HKB6 := Lib.hid (HKB7.out.below b6)
                have HB6 := Lib.hid (below_step HB7.out b6)
                clear b6
                have hll6 : (CH.list d2).length = n + 1 := by unfold CH.list; rw [List.length_map, HN2.out, HNN.out]
                rw [hll6]
                clear hll6
                go_wp2_with fail
                go_roundw
                case rel => exact ⟨k + 1, d2, own5, by omega, by omega, by go_num, by rw [HN2.out, HNN.out]; go_num, HI6.out, HO5.out, HNB5.out, HKB6.out, HB6.out, by rw [HN2.out, HNN.out]; omega⟩
                case measure => simp [intOf]; omega
            · subst h
              have HKM : Hid ((k : Int).tmod 2 = 1) := HK2.out
              have hkm := HKM.out
              by_cases hn20 : n = 20
              · have hnb : ((n : Int) == 20) = true := by rw [hn20]; rfl
                have HN20 := Lib.hid hn20
                clear hn20
                go_wp2_with fail
                have hcall := H.add (ge, gc) none 0 [] HI.out HGB.out (ChL.nil _ _) (by decide) (fun _ _ e => by cases e)
                rw [(snap_full HAB.out (HNN.out.trans HN20.out)).2] at hcall
                refine hcall.mono ?_
                clear hcall
                rintro e W5 ⟨rfl, own5, hi5, hb5, hg5⟩
                dsimp only at hi5
                have HI5 := Lib.hid hi5
                have HO5 : Hid (∀ j, own5 j → w.heap.size ≤ j) := fun j hj => by
                  rcases hg5 j hj with h | h
                  · exact HO.out j h
                  · have := HB.out.size; omega
                have HNB5 : Hid (¬ own5 bl) := fun h => by
                  rcases hg5 bl h with h | h
                  · exact HNB.out h
                  · have := HKB.out.lt; omega
                have HKB5 := Lib.hid (HKB.out.of_block (hb5.block bl HKB.out.lt HNB.out))
                have HB5 := Lib.hid (HB.out.trans (hb5.below HO.out HB.out.size))
                clear hi5 hb5 hg5 e0 e1 f0 f1 lb lbl
                dsimp only
                go_wp2_with fail
                refine (H.list HI5.out).mono ?_
                rintro e W6 ⟨A6, c6, rfl, -, -, b6⟩
                have HI6 := Lib.hid (H.keep HI5.out (fun j hj => b6.block j (H.low HI5.out j hj)) b6.size)
                have HKB6 := Lib.hid (HKB5.out.below b6)
                have HB6 := Lib.hid (below_step HB5.out b6)
                clear b6
                have hll6 : (CH.list d).length = n := by unfold CH.list; rw [List.length_map]; exact HNN.out
                rw [hll6]
                clear hll6
                go_wp2_with fail
                go_roundw
                case rel => exact ⟨k + 1, d, own5, by omega, by omega, by go_num, by rw [HNN.out], HI6.out, HO5.out, HNB5.out, HKB6.out, HB6.out, by rw [HNN.out]; exact hn⟩
                case measure => simp [intOf]; omega
              · have hnb : ((n : Int) == 20) = false := by rw [beq_eq_false_iff_ne]; omega
                obtain ⟨d2, hd2, hn2, hl2⟩ := (snap_done HAB.out (by rw [HNN.out]; omega : d.snaps.length < 20)).2
                have HN2 := Lib.hid hn2
                have HL2 := Lib.hid hl2
                clear hn2 hl2
                go_wp2_with fail
                have hcall := H.add (ge, gc) none 0 [] HI.out HGB.out (ChL.nil _ _) (by decide) (fun _ _ e => by cases e)
                rw [hd2] at hcall
                refine hcall.mono ?_
                clear hcall
                rintro e W5 ⟨rfl, own5, hi5, hb5, hg5⟩
                dsimp only at hi5
                clear hd2
                have HI5 := Lib.hid hi5
                have HO5 : Hid (∀ j, own5 j → w.heap.size ≤ j) := fun j hj => by
                  rcases hg5 j hj with h | h
                  · exact HO.out j h
                  · have := HB.out.size; omega
                have HNB5 : Hid (¬ own5 bl) := fun h => by
                  rcases hg5 bl h with h | h
                  · exact HNB.out h
                  · have := HKB.out.lt; omega
                have HKB5 := Lib.hid (HKB.out.of_block (hb5.block bl HKB.out.lt HNB.out))
                have HB5 := Lib.hid (HB.out.trans (hb5.below HO.out HB.out.size))
                clear hi5 hb5 hg5 e0 e1 f0 f1 lb lbl
                dsimp only
                have g0 : W5.cell? ⟨b, o + k * 2, none⟩ = some (.int .u64 (ge : Int)) := by rw [HB5.out.cell (p := ⟨b, o + k * 2, none⟩) HBL.out]; exact C0.out
                have g1 : W5.cell? ⟨b, o + k * 2 + 1, none⟩ = some (.int .u64 (gc : Int)) := by rw [HB5.out.cell (p := ⟨b, o + k * 2 + 1, none⟩) HBL.out]; exact C1.out
                have lb5 : b < W5.heap.size := Nat.lt_of_lt_of_le HBL.out HB5.out.size
                have f0 : W5.cell? ⟨bl, 0, none⟩ = some (.int .u64 (d.last.1 : Int)) := HKB5.out.cell 0
                have f1 : W5.cell? ⟨bl, 1, none⟩ = some (.int .u64 (d.last.2 : Int)) := HKB5.out.cell 1
                have lbl := HKB5.out.lt
                have fz0 := HKB5.out.frozen 0
                have fz1 := HKB5.out.frozen 1
                go_wp2_with fail
                have hk6 := (HKB5.out.set_ 0 (.int .u64 (ge : Int))).set_ 1 (.int .u64 (gc : Int))
                have HKB7 : Hid (Blk ((W5.setCell ⟨bl, 0, none⟩ (.int .u64 (ge : Int))).setCell ⟨bl, 1, none⟩ (.int .u64 (gc : Int))) bl 37 #[.int .u64 (d2.last.1 : Int), .int .u64 (d2.last.2 : Int)]) := by
                  unfold Hid
                  rw [HL2.out]
                  exact hk6
                have hb7 : But (fun j => j = bl) W5 ((W5.setCell ⟨bl, 0, none⟩ (.int .u64 (ge : Int))).setCell ⟨bl, 1, none⟩ (.int .u64 (gc : Int))) := ((But.refl (fun j => j = bl) W5).setCell ⟨bl, 0, none⟩ _ (.inl rfl)).setCell ⟨bl, 1, none⟩ _ (.inl rfl)
                have HI7 := Lib.hid (H.keep HI5.out (fun j hj => hb7.block j (H.low HI5.out j hj) (fun e => HNB5.out (e ▸ hj))) hb7.size)
                have HB7 := Lib.hid (HB5.out.trans (hb7.below (fun i e => by rw [e]; exact HBM.out) HB5.out.size))
                clear hk6 hb7 g0 g1 lb5 f0 f1 fz0 fz1 lbl
                obtain ⟨W7, hW7⟩ : ∃ x, (W5.setCell ⟨bl, 0, none⟩ (.int .u64 (ge : Int))).setCell ⟨bl, 1, none⟩ (.int .u64 (gc : Int)) = x := ⟨_, rfl⟩
                rw [hW7] at HKB7 HI7 HB7 ⊢
                clear hW7
                refine (H.list HI7.out).mono ?_
                rintro e W6 ⟨A6, c6, rfl, -, -, b6⟩
                have HI6 := Lib.hid (H.keep HI7.out (fun j hj => b6.block j (H.low HI7.out j hj)) b6.size)
                have HKB6 := Lib.hid (HKB7.out.below b6)
                have HB6 := Lib.hid (below_step HB7.out b6)
                clear b6
                have hll6 : (CH.list d2).length = n + 1 := by unfold CH.list; rw [List.length_map, HN2.out, HNN.out]
                rw [hll6]
                clear hll6
                go_wp2_with fail
                go_roundw
                case rel => exact ⟨k + 1, d2, own5, by omega, by omega, by go_num, by rw [HN2.out, HNN.out]; go_num, HI6.out, HO5.out, HNB5.out, HKB6.out, HB6.out, by rw [HN2.out, HNN.out]; omega⟩
                case measure => simp [intOf]; omega
          · have HAB : Hid (above (ge, gc) d.last = false) := by unfold Hid above; rw [HLL.out, decide_eq_false h3, decide_eq_false h1]; simp
            have g3 : decide (lc < gc) = false := decide_eq_false h3
            go_wp2_with fail
            go_quiet (fail)
            have HI := Lib.hid (H.keep HI.out (fun j hj => rfl) (Nat.le_refl _) : Is own (wr.drewN nq) p d)
            have HKB : Hid (Blk (wr.drewN nq) bl 37 _) := HKB.out
            have HB : Hid (Below w.heap.size w (wr.drewN nq)) := ⟨HB.out.os, HB.out.tape, HB.out.output, HB.out.size, HB.out.block⟩
            obtain ⟨wq, hwq⟩ : ∃ x, wr.drewN nq = x := ⟨_, rfl⟩
            have e0 : (wr.drewN nq).cell? ⟨b, o + k * 2, none⟩ = some (.int .u64 (ge : Int)) := e0
            have e1 : (wr.drewN nq).cell? ⟨b, o + k * 2 + 1, none⟩ = some (.int .u64 (gc : Int)) := e1
            have lb : b < (wr.drewN nq).heap.size := lb
            rw [hwq] at HI HKB HB e0 e1 lb ⊢
            have f0 : wq.cell? ⟨bl, 0, none⟩ = some (.int .u64 (d.last.1 : Int)) := HKB.out.cell 0
            have f1 : wq.cell? ⟨bl, 1, none⟩ = some (.int .u64 (d.last.2 : Int)) := HKB.out.cell 1
            have lbl := HKB.out.lt
            clear hwq
            rcases hk2l with h | h
            · subst h
              have HKM : Hid ((k : Int).tmod 2 = 0) := HK2.out
              have hkm := HKM.out
              go_wp2_with fail
              have hcall := H.snap (ge, gc) HI.out HGB.out
              rw [(snap_low HAB.out).1] at hcall
              refine hcall.mono ?_
              clear hcall
              rintro e W5 ⟨rfl, own5, hi5, hb5, hg5⟩
              dsimp only at hi5
              have HI5 := Lib.hid hi5
              have HO5 : Hid (∀ j, own5 j → w.heap.size ≤ j) := fun j hj => by
                rcases hg5 j hj with h | h
                · exact HO.out j h
                · have := HB.out.size; omega
              have HNB5 : Hid (¬ own5 bl) := fun h => by
                rcases hg5 bl h with h | h
                · exact HNB.out h
                · have := HKB.out.lt; omega
              have HKB5 := Lib.hid (HKB.out.of_block (hb5.block bl HKB.out.lt HNB.out))
              have HB5 := Lib.hid (HB.out.trans (hb5.below HO.out HB.out.size))
              clear hi5 hb5 hg5 e0 e1 f0 f1 lb lbl
              dsimp only
              go_wp2_with fail
              refine (H.list HI5.out).mono ?_
              rintro e W6 ⟨A6, c6, rfl, -, -, b6⟩
              have HI6 := Lib.hid (H.keep HI5.out (fun j hj => b6.block j (H.low HI5.out j hj)) b6.size)
              have HKB6 := Lib.hid (HKB5.out.below b6)
              have HB6 := Lib.hid (below_step HB5.out b6)
              clear b6
              have hll6 : (CH.list d).length = n := by unfold CH.list; rw [List.length_map]; exact HNN.out
              rw [hll6]
              clear hll6
              go_wp2_with fail
              go_roundw
              case rel => exact ⟨k + 1, d, own5, by omega, by omega, by go_num, by rw [HNN.out], HI6.out, HO5.out, HNB5.out, HKB6.out, HB6.out, by rw [HNN.out]; exact hn⟩
              case measure => simp [intOf]; omega
            · subst h
              have HKM : Hid ((k : Int).tmod 2 = 1) := HK2.out
              have hkm := HKM.out
              go_wp2_with fail
              have hcall := H.add (ge, gc) none 0 [] HI.out HGB.out (ChL.nil _ _) (by decide) (fun _ _ e => by cases e)
              rw [(snap_low HAB.out).2] at hcall
              refine hcall.mono ?_
              clear hcall
              rintro e W5 ⟨rfl, own5, hi5, hb5, hg5⟩
              dsimp only at hi5
              have HI5 := Lib.hid hi5
              have HO5 : Hid (∀ j, own5 j → w.heap.size ≤ j) := fun j hj => by
                rcases hg5 j hj with h | h
                · exact HO.out j h
                · have := HB.out.size; omega
              have HNB5 : Hid (¬ own5 bl) := fun h => by
                rcases hg5 bl h with h | h
                · exact HNB.out h
                · have := HKB.out.lt; omega
              have HKB5 := Lib.hid (HKB.out.of_block (hb5.block bl HKB.out.lt HNB.out))
              have HB5 := Lib.hid (HB.out.trans (hb5.below HO.out HB.out.size))
              clear hi5 hb5 hg5 e0 e1 f0 f1 lb lbl
              dsimp only
              go_wp2_with fail
              refine (H.list HI5.out).mono ?_
              rintro e W6 ⟨A6, c6, rfl, -, -, b6⟩
              have HI6 := Lib.hid (H.keep HI5.out (fun j hj => b6.block j (H.low HI5.out j hj)) b6.size)
              have HKB6 := Lib.hid (HKB5.out.below b6)
              have HB6 := Lib.hid (below_step HB5.out b6)
              clear b6
              have hll6 : (CH.list d).length = n := by unfold CH.list; rw [List.length_map]; exact HNN.out
              rw [hll6]
              clear hll6
              go_wp2_with fail
              go_roundw
              case rel => exact ⟨k + 1, d, own5, by omega, by omega, by go_num, by rw [HNN.out], HI6.out, HO5.out, HNB5.out, HKB6.out, HB6.out, by rw [HNN.out]; exact hn⟩
              case measure => simp [intOf]; omega
        · have g2 : ((ge : Int) == (le : Int)) = false := by rw [beq_eq_false_iff_ne]; omega
          have HAB : Hid (above (ge, gc) d.last = false) := by unfold Hid above; rw [HLL.out, decide_eq_false h1, decide_eq_false h2]; rfl
          go_wp2_with fail
          go_quiet (fail)
          have HI := Lib.hid (H.keep HI.out (fun j hj => rfl) (Nat.le_refl _) : Is own (wr.drewN nq) p d)
          have HKB : Hid (Blk (wr.drewN nq) bl 37 _) := HKB.out
          have HB : Hid (Below w.heap.size w (wr.drewN nq)) := ⟨HB.out.os, HB.out.tape, HB.out.output, HB.out.size, HB.out.block⟩
          obtain ⟨wq, hwq⟩ : ∃ x, wr.drewN nq = x := ⟨_, rfl⟩
          have e0 : (wr.drewN nq).cell? ⟨b, o + k * 2, none⟩ = some (.int .u64 (ge : Int)) := e0
          have e1 : (wr.drewN nq).cell? ⟨b, o + k * 2 + 1, none⟩ = some (.int .u64 (gc : Int)) := e1
          have lb : b < (wr.drewN nq).heap.size := lb
          rw [hwq] at HI HKB HB e0 e1 lb ⊢
          have f0 : wq.cell? ⟨bl, 0, none⟩ = some (.int .u64 (d.last.1 : Int)) := HKB.out.cell 0
          have f1 : wq.cell? ⟨bl, 1, none⟩ = some (.int .u64 (d.last.2 : Int)) := HKB.out.cell 1
          have lbl := HKB.out.lt
          clear hwq
          rcases hk2l with h | h
          · subst h
            have HKM : Hid ((k : Int).tmod 2 = 0) := HK2.out
            have hkm := HKM.out
            go_wp2_with fail
            have hcall := H.snap (ge, gc) HI.out HGB.out
            rw [(snap_low HAB.out).1] at hcall
            refine hcall.mono ?_
            clear hcall
            rintro e W5 ⟨rfl, own5, hi5, hb5, hg5⟩
            dsimp only at hi5
            have HI5 := Lib.hid hi5
            have HO5 : Hid (∀ j, own5 j → w.heap.size ≤ j) := fun j hj => by
              rcases hg5 j hj with h | h
              · exact HO.out j h
              · have := HB.out.size; omega
            have HNB5 : Hid (¬ own5 bl) := fun h => by
              rcases hg5 bl h with h | h
              · exact HNB.out h
              · have := HKB.out.lt; omega
            have HKB5 := Lib.hid (HKB.out.of_block (hb5.block bl HKB.out.lt HNB.out))
            have HB5 := Lib.hid (HB.out.trans (hb5.below HO.out HB.out.size))
            clear hi5 hb5 hg5 e0 e1 f0 f1 lb lbl
            dsimp only
            go_wp2_with fail
            refine (H.list HI5.out).mono ?_
            rintro e W6 ⟨A6, c6, rfl, -, -, b6⟩
            have HI6 := Lib.hid (H.keep HI5.out (fun j hj => b6.block j (H.low HI5.out j hj)) b6.size)
            have HKB6 := Lib.hid (HKB5.out.below b6)
            have HB6 := Lib.hid (below_step HB5.out b6)
            clear b6
            have hll6 : (CH.list d).length = n := by unfold CH.list; rw [List.length_map]; exact HNN.out
            rw [hll6]
            clear hll6
            go_wp2_with fail
            go_roundw
            case rel => exact ⟨k + 1, d, own5, by omega, by omega, by go_num, by rw [HNN.out], HI6.out, HO5.out, HNB5.out, HKB6.out, HB6.out, by rw [HNN.out]; exact hn⟩
            case measure => simp [intOf]; omega
          · subst h
            have HKM : Hid ((k : Int).tmod 2 = 1) := HK2.out
            have hkm := HKM.out
            go_wp2_with fail
            have hcall := H.add (ge, gc) none 0 [] HI.out HGB.out (ChL.nil _ _) (by decide) (fun _ _ e => by cases e)
            rw [(snap_low HAB.out).2] at hcall
            refine hcall.mono ?_
            clear hcall
            rintro e W5 ⟨rfl, own5, hi5, hb5, hg5⟩
            dsimp only at hi5
            have HI5 := Lib.hid hi5
            have HO5 : Hid (∀ j, own5 j → w.heap.size ≤ j) := fun j hj => by
              rcases hg5 j hj with h | h
              · exact HO.out j h
              · have := HB.out.size; omega
            have HNB5 : Hid (¬ own5 bl) := fun h => by
              rcases hg5 bl h with h | h
              · exact HNB.out h
              · have := HKB.out.lt; omega
            have HKB5 := Lib.hid (HKB.out.of_block (hb5.block bl HKB.out.lt HNB.out))
            have HB5 := Lib.hid (HB.out.trans (hb5.below HO.out HB.out.size))
            clear hi5 hb5 hg5 e0 e1 f0 f1 lb lbl
            dsimp only
            go_wp2_with fail
            refine (H.list HI5.out).mono ?_
            rintro e W6 ⟨A6, c6, rfl, -, -, b6⟩
            have HI6 := Lib.hid (H.keep HI5.out (fun j hj => b6.block j (H.low HI5.out j hj)) b6.size)
            have HKB6 := Lib.hid (HKB5.out.below b6)
            have HB6 := Lib.hid (below_step HB5.out b6)
            clear b6
            have hll6 : (CH.list d).length = n := by unfold CH.list; rw [List.length_map]; exact HNN.out
            rw [hll6]
            clear hll6
            go_wp2_with fail
            go_roundw
            case rel => exact ⟨k + 1, d, own5, by omega, by omega, by go_num, by rw [HNN.out], HI6.out, HO5.out, HNB5.out, HKB6.out, HB6.out, by rw [HNN.out]; exact hn⟩
            case measure => simp [intOf]; omega
    · have hdone : ¬ ((k : Int) < (gs.length : Int) ∧ (k : Int) < 100) := by omega
      by_cases hkl : (k : Int) < (gs.length : Int)
      · have hk1 : ¬ ((k : Int) < 100) := by omega
        go_wp2_with fail
        go_ret
        exact ⟨rfl, HB.out⟩
      · go_wp2_with fail
        go_ret
        exact ⟨rfl, HB.out⟩
end Go.Proofs.Ytfinmfmbbgakhaa.ch

