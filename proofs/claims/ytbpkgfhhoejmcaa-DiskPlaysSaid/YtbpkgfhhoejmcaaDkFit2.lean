/- What fitter and Fits of package disk do. -/
import Derived.Test.YtbpkgfhhoejmcaaDkFits
namespace Go.Proofs.Ytbpkgfhhoejmcaa.dk
open Go Go.RowKit

/-- What the operations of 'free := d.room - len(d.written)' yield. -/
def FG (p m : Nat) (room used : Int) (B : Nat) : Nat → Value → World → Prop
  | 0, v, _ => v = .pointer (some ⟨p, 0, none⟩)
  | 1, v, _ => v = .pointer (some ⟨p, 0, none⟩)
  | 2, v, _ => v = .pointer (some ⟨p, 1, none⟩)
  | 3, v, _ => v = .int .i64 room
  | 4, v, _ => v = .pointer (some ⟨p, 0, none⟩)
  | 5, v, _ => v = .pointer (some ⟨p, 0, none⟩)
  | 6, v, _ => v = .pointer (some ⟨p, 2, none⟩)
  | 7, v, _ => v = .map (some m)
  | 8, v, _ => v = .int .i64 used
  | 9, v, _ => v = .int .i64 (room - used)
  | 10, v, w => ∃ b, v = .pointer (some ⟨b, 0, none⟩) ∧ B ≤ b ∧ Blk w b 3 #[.int .i64 0]
  | _, _, _ => True

theorem FG_mono (p m : Nat) (room used : Int) (B : Nat) (i : Nat) (v : Value) (w w' : World) (hi : i < 11) (h : FG p m room used B i v w) (hb : Below w.heap.size w w') : FG p m room used B i v w' := by
  match i, hi, h with
  | 0, _, h | 1, _, h | 2, _, h | 3, _, h | 4, _, h | 5, _, h | 6, _, h | 7, _, h | 8, _, h | 9, _, h => exact h
  | 10, _, ⟨b, h1, h2, h3⟩ => exact ⟨b, h1, h2, h3.of_block (hb.block b h3.lt)⟩

def MakePost (p : Nat) (free : Int) (w : World) (e : Ending) (w' : World) : Prop :=
  ∃ B4 B3 a, e = .returned (.func (.func 43) #[] #[.pointer (some ⟨w.heap.size, 0, none⟩), .pointer (some ⟨B4, 0, none⟩), .pointer (some ⟨B3, 0, none⟩)]) ∧
    Env w' p w.heap.size B4 B3 a free [] ∧ Below w.heap.size w w' ∧ w.heap.size ≤ a

section
variable {w : World} {p m : Nat} {v : Value} {d : DD} {own : Nat → Prop}

set_option maxRecDepth 100000 in
set_option maxHeartbeats 800000 in
theorem fitter_any {most : Nat} (h0 : d.ok most) (h : DkAt w own p m v d) :
    Calls Try.prog 38 #[.pointer (some ⟨p, 0, none⟩)] w (MakePost p (d.room - (d.used : Int)) w) := by
  have hmm := @run_makeMap Try.prog
  have HM := Lib.hid h.2.1
  have hp := h.1.lt
  have hml := h.2.1.lt
  obtain ⟨c0, c1, c2, c3, c4, c5⟩ := blk6 h.1
  have r0 := h0.room0
  have r1 := h0.room1
  have hu : d.used ≤ 1024 := by
    have := cnt_le d.now
    rw [d.now_length] at this
    have := h0.n1
    unfold DD.used
    omega
  have HU : Hid (cnt d.now = d.used) := rfl
  clear h h0 c0 c3 c4 c5
  generalize hroom : d.room = room at *
  generalize hused : d.used = used at *
  clear hroom hused
  go_enter Try.func38, Try.ntmps38
  go_wp2_with fail
  have hbx : (w.alloc (.cells #[.pointer (some ⟨p, 0, none⟩)] 24)).heap[w.heap.size]? = some (.cells #[.pointer (some ⟨p, 0, none⟩)] 24 (0, 0)) := heap_alloc_new w _
  have hold : ∀ k, k < w.heap.size → (w.alloc (.cells #[.pointer (some ⟨p, 0, none⟩)] 24)).heap[k]? = w.heap[k]? := fun k hk => Below.heap_alloc w _ k hk
  have hsz : (w.alloc (.cells #[.pointer (some ⟨p, 0, none⟩)] 24)).heap.size = w.heap.size + 1 := by simp
  have hB0 : Below w.heap.size w (w.alloc (.cells #[.pointer (some ⟨p, 0, none⟩)] 24)) := (Below.refl _ w).alloc (Nat.le_refl _) _
  generalize w.alloc (.cells #[.pointer (some ⟨p, 0, none⟩)] 24) = w1 at *
  refine wp_region_slots_r (by kernel_rfl) 11 [5, 6, 7, 8, 9, 10, 11, 12, 13, 14, 3] (by kernel_rfl) (FG p m room (used : Int) w1.heap.size) (FG_mono _ _ _ _ _) ?_ ?_
  · intro i o vs ρ W hi ho hρ hb hG
    have t5 := hρ.at_ 5 0 rfl
    have t6 := hρ.at_ 6 1 rfl
    have t7 := hρ.at_ 7 2 rfl
    have t8 := hρ.at_ 8 3 rfl
    have t9 := hρ.at_ 9 4 rfl
    have t10 := hρ.at_ 10 5 rfl
    have t11 := hρ.at_ 11 6 rfl
    have t12 := hρ.at_ 12 7 rfl
    have t13 := hρ.at_ 13 8 rfl
    have t1 : ρ (.tmp 1) = .pointer (some ⟨w.heap.size, 0, none⟩) := hρ.out 1 rfl
    have hc := hρ.const
    have k1 : W.cell? ⟨w.heap.size, 0, none⟩ = some (.pointer (some ⟨p, 0, none⟩)) := by rw [hb.cell (p := ⟨w.heap.size, 0, none⟩) (by simp [hsz]), cell_of_row _ _ _ _ _ _ hbx]; rfl
    have q1 : W.cell? ⟨p, 1, none⟩ = some (.int .i64 room) := by rw [hb.cell (p := ⟨p, 1, none⟩) (by simp [hsz]; omega), World.cell?_of_block (a := ⟨p, 1, none⟩) (hold p hp)]; exact c1
    have q2 : W.cell? ⟨p, 2, none⟩ = some (.map (some m)) := by rw [hb.cell (p := ⟨p, 2, none⟩) (by simp [hsz]; omega), World.cell?_of_block (a := ⟨p, 2, none⟩) (hold p hp)]; exact c2
    have hmW : MapIs W m d.now := HM.out.of_block ((hb.block m (by omega)).trans (hold m hml))
    rcases i with _ | _ | _ | _ | _ | _ | _ | _ | _ | _ | _ | i
    all_goals (first | omega | skip)
    all_goals simp only [List.getElem?_toArray, List.getElem?_cons_zero, List.getElem?_cons_succ, Option.some.injEq] at ho
    all_goals subst ho
    · exact stepTo_value (w' := W) (by unfold execOp; simp only [t1]; go_simp) ⟨Below.refl _ _, rfl⟩
    · have g : vs 0 = _ := hG 0 (by kernel_rfl)
      exact stepTo_value (w' := W) (by unfold execOp; simp only [t5, g]; go_simp) ⟨Below.refl _ _, rfl⟩
    · have g : vs 1 = _ := hG 1 (by kernel_rfl)
      exact stepTo_value (w' := W) (by unfold execOp; simp only [t6, g]; go_simp) ⟨Below.refl _ _, rfl⟩
    · have g : vs 2 = _ := hG 2 (by kernel_rfl)
      exact stepTo_value (w' := W) (by unfold execOp; simp only [t7, g]; go_simp) ⟨Below.refl _ _, rfl⟩
    · exact stepTo_value (w' := W) (by unfold execOp; simp only [t1]; go_simp) ⟨Below.refl _ _, rfl⟩
    · have g : vs 4 = _ := hG 4 (by kernel_rfl)
      exact stepTo_value (w' := W) (by unfold execOp; simp only [t9, g]; go_simp) ⟨Below.refl _ _, rfl⟩
    · have g : vs 5 = _ := hG 5 (by kernel_rfl)
      exact stepTo_value (w' := W) (by unfold execOp; simp only [t10, g]; go_simp) ⟨Below.refl _ _, rfl⟩
    · have g : vs 6 = _ := hG 6 (by kernel_rfl)
      exact stepTo_value (w' := W) (by unfold execOp; simp only [t11, g]; go_simp) ⟨Below.refl _ _, rfl⟩
    · have g : vs 7 = _ := hG 7 (by kernel_rfl)
      exact stepTo_value (w' := W) (exec_len (.tmp 12) rfl (t12.trans g) hmW) ⟨Below.refl _ _, by rw [HU.out]; rfl⟩
    · have g3 : vs 3 = _ := hG 3 (by kernel_rfl)
      have g8 : vs 8 = _ := hG 8 (by kernel_rfl)
      exact stepTo_value (w' := W) (by unfold execOp; simp only [t8, g3, t13, g8]; go_simp; exact IntWalk.i64_in _ (by omega)) ⟨Below.refl _ _, rfl⟩
    · exact stepTo_value (v := .pointer (some ⟨W.heap.size, 0, none⟩)) (w' := W.alloc (.cells #[.int .i64 0] 3)) (by unfold execOp; go_simp) ⟨(Below.refl _ _).alloc (Nat.le_refl _) _, W.heap.size, rfl, hb.size, Blk.new _ _ _⟩
  · intro vs W hb hG
    have g9 : vs 9 = _ := hG 9 (by decide)
    obtain ⟨b3, g10, hb3, hk3⟩ : ∃ b, vs 10 = .pointer (some ⟨b, 0, none⟩) ∧ w1.heap.size ≤ b ∧ Blk W b 3 #[.int .i64 0] := hG 10 (by decide)
    simp only [putList, putSel, if_true]
    rw [g9, g10]
    generalize vs 0 = x0
    generalize vs 1 = x1
    generalize vs 2 = x2
    generalize vs 3 = x3
    generalize vs 4 = x4
    generalize vs 5 = x5
    generalize vs 6 = x6
    generalize vs 7 = x7
    generalize vs 8 = x8
    clear hG g9 g10
    have k3 : W.cell? ⟨b3, 0, none⟩ = some (.int .i64 0) := hk3.cell 0
    have f3 := hk3.frozen 0
    have HK3 := Lib.hid hk3
    have hbW := hb.size
    have HB := Lib.hid (hB0.trans (hb.mono (by omega)))
    have HX := Lib.hid ((hb.block w.heap.size (by omega)).trans hbx)
    have hbsz := hk3.lt
    clear hk3 hb hB0 hold hbx c1 c2
    go_simp
    refine wpAny_one (i := 11) (by kernel_rfl) rfl rfl ?_
    go_simp
    refine ⟨by kernel_rfl, ?_⟩
    go_wp2
    go_ret
    generalize hW2 : W.setCell ⟨b3, 0, none⟩ (.int .i64 (room - (used : Int))) = W2
    have hs2 : W2.heap.size = W.heap.size := by rw [← hW2, size_set]
    have hk2 : Blk W2 b3 3 #[.int .i64 (room - (used : Int))] := by rw [← hW2]; exact HK3.out.set_ 0 _
    have hx2 : Blk W2 w.heap.size 24 #[.pointer (some ⟨p, 0, none⟩)] := by
      unfold Blk
      rw [← hW2, set_other _ _ _ _ _ (by omega)]
      exact HX.out
    have hB2 : Below w.heap.size w W2 := by rw [← hW2]; exact HB.out.setCell (by simp; omega) _
    refine ⟨W.heap.size + 1, b3, W.heap.size, rfl, ⟨?_, ?_, ?_, ?_⟩, ?_, ?_⟩
    · refine (hx2.of_block (Below.heap_alloc _ _ _ (by omega))).of_block (Below.heap_alloc _ _ _ (by simp; omega))
    · rw [← hs2]
      exact heap_alloc2_new _ _ _
    · refine (hk2.of_block (Below.heap_alloc _ _ _ (by omega))).of_block (Below.heap_alloc _ _ _ (by simp; omega))
    · rw [← hs2]
      exact (SetIs.made W2).of_block (Below.heap_alloc _ _ _ (by simp))
    · exact (hB2.alloc (by omega) _).alloc (by simp; omega) _
    · omega
end
end Go.Proofs.Ytbpkgfhhoejmcaa.dk
